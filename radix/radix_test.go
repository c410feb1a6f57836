package radix_test

import (
	"fmt"
	"math"
	"math/big"
	"regexp"
	"slices"
	"strings"
	"testing"

	"emulator/api"
	"emulator/radix"
)

var bases = []int{8, 10, 16}

// wrongBases has bases that Go's own functions know, and others.
var wrongBases = []int{0, 1, 2, 7, 9, 11, 15, 17, 32, 36, 37, 62, 64, -8, -10, -16, math.MaxInt, math.MinInt}

// numbers has the numbers at which digits, bytes and words change, and the greatest and least.
var numbers = []int{0, 1, 7, 8, 9, 10, 15, 16, 63, 64, 99, 100, 255, 256, 511, 512, 999, 1000, 4095, 4096, 9999, 10000, 32767, 32768, 65535, 65536, 99999, 100000, 1<<31 - 1, 1 << 31, 1<<32 + 5, 1<<40 - 1, math.MaxInt - 1, math.MaxInt}

// lists returns all texts of at most n of the given parts.
func lists(parts []string, n int) []string {
	all, last := []string{""}, []string{""}
	for range n {
		var next []string
		for _, s := range last {
			for _, p := range parts {
				next = append(next, s+p)
			}
		}
		all, last = append(all, next...), next
	}
	return all
}

// everyByte returns all bytes, one after the other.
func everyByte() string {
	var b []byte
	for c := range 256 {
		b = append(b, byte(c))
	}
	return string(b)
}

// P2.1

func TestFormatCases(t *testing.T) {
	for _, k := range []struct {
		n, base int
		want    string
	}{
		{255, 16, "ff"}, {-9, 8, "-11"}, {1, 2, ""}, // examples
		{0, 8, "0"}, {0, 10, "0"}, {0, 16, "0"}, {7, 8, "7"}, {8, 8, "10"}, {9, 10, "9"}, {10, 10, "10"}, {10, 16, "a"}, {15, 16, "f"}, {16, 16, "10"},
		{64, 8, "100"}, {100, 10, "100"}, {256, 16, "100"}, {65535, 8, "177777"}, {65535, 10, "65535"}, {65535, 16, "ffff"}, {65536, 8, "200000"}, {65536, 10, "65536"}, {65536, 16, "10000"}, {0xABCDEF, 16, "abcdef"}, {19088743, 16, "1234567"},
		{-1, 8, "-1"}, {-1, 10, "-1"}, {-1, 16, "-1"}, {-8, 8, "-10"}, {-10, 10, "-10"}, {-255, 16, "-ff"}, {-32768, 10, "-32768"},
		{math.MaxInt64, 8, "777777777777777777777"}, {math.MaxInt64, 10, "9223372036854775807"}, {math.MaxInt64, 16, "7fffffffffffffff"},
		{math.MinInt64, 8, "-1000000000000000000000"}, {math.MinInt64, 10, "-9223372036854775808"}, {math.MinInt64, 16, "-8000000000000000"},
	} {
		if got := radix.Format(k.n, k.base); got != k.want {
			t.Errorf("Format(%d, %d) = %q, want %q", k.n, k.base, got, k.want)
		}
	}
}

func TestFormat(t *testing.T) {
	check := func(n, base int) {
		if got, want := radix.Format(n, base), big.NewInt(int64(n)).Text(base); got != want {
			t.Fatalf("Format(%d, %d) = %q, want %q", n, base, got, want)
		}
	}
	for _, base := range bases {
		for n := -70000; n <= 70000; n++ {
			check(n, base)
		}
		for _, n := range numbers {
			check(n, base)
			check(-n, base)
		}
		check(math.MinInt, base)
	}
}

func TestFormatOfAnotherBase(t *testing.T) {
	for _, base := range wrongBases {
		for _, n := range []int{0, 1, -1, 65535, math.MaxInt, math.MinInt} {
			if got := radix.Format(n, base); got != "" {
				t.Errorf("Format(%d, %d) = %q, want the empty text", n, base, got)
			}
		}
	}
}

// P2.2

func TestPadCases(t *testing.T) {
	for _, k := range []struct {
		n, base, width int
		want           string
	}{
		{9, 8, 4, "0011"}, {65536, 10, 3, "65536"}, // examples
		{0, 8, 0, "0"}, {0, 10, 1, "0"}, {0, 16, 3, "000"}, {5, 10, 0, "5"}, {5, 10, 1, "5"}, {5, 10, 2, "05"}, {10, 8, 2, "12"}, {10, 8, 1, "12"}, {10, 16, 4, "000a"}, {65535, 8, 6, "177777"}, {65535, 8, 7, "0177777"}, {65535, 16, 4, "ffff"}, {65535, 10, 8, "00065535"},
		{7, 8, -1, "7"}, {65535, 10, -100, "65535"}, {0, 16, math.MinInt, "0"}, {255, 16, math.MinInt, "ff"}, {math.MaxInt64, 8, math.MinInt + 3, "777777777777777777777"},
		{math.MaxInt64, 8, 22, "0777777777777777777777"}, {math.MaxInt64, 16, 16, "7fffffffffffffff"},
	} {
		if got := radix.Pad(k.n, k.base, k.width); got != k.want {
			t.Errorf("Pad(%d, %d, %d) = %q, want %q", k.n, k.base, k.width, got, k.want)
		}
	}
}

func TestPad(t *testing.T) {
	verbs := map[int]string{8: "%0*o", 10: "%0*d", 16: "%0*x"}
	for base, verb := range verbs {
		for _, n := range numbers {
			for width := -2; width <= 70; width++ {
				want := fmt.Sprintf(verb, max(0, min(width, 64)), n)
				if got := radix.Pad(n, base, width); got != want {
					t.Fatalf("Pad(%d, %d, %d) = %q, want %q", n, base, width, got, want)
				}
			}
		}
	}
}

func TestPadOfGreatWidth(t *testing.T) {
	for _, width := range []int{64, 65, 66, 1000, 1 << 31, 1 << 40, math.MaxInt - 1, math.MaxInt} {
		if got, want := radix.Pad(8, 8, width), strings.Repeat("0", 62)+"10"; got != want {
			t.Errorf("Pad(8, 8, %d) = %q, want %q", width, got, want)
		}
	}
	if got, want := radix.Pad(8, 8, 63), strings.Repeat("0", 61)+"10"; got != want {
		t.Errorf("Pad(8, 8, 63) = %q, want %q", got, want)
	}
}

func TestPadOfNegativeNumber(t *testing.T) {
	for _, base := range bases {
		for _, n := range []int{-1, -9, -65536, math.MinInt, math.MinInt + 1} {
			for _, width := range []int{0, 1, 8, 64, 100, -5} {
				if got := radix.Pad(n, base, width); got != "" {
					t.Errorf("Pad(%d, %d, %d) = %q, want the empty text", n, base, width, got)
				}
			}
		}
	}
}

func TestPadOfAnotherBase(t *testing.T) {
	for _, base := range wrongBases {
		for _, n := range []int{0, 1, 65535, math.MaxInt, -1} {
			for _, width := range []int{0, 4, 64, 100, -5, math.MaxInt, math.MinInt} {
				if got := radix.Pad(n, base, width); got != "" {
					t.Errorf("Pad(%d, %d, %d) = %q, want the empty text", n, base, width, got)
				}
			}
		}
	}
}

// P2.3

func TestParseCases(t *testing.T) {
	for _, k := range []struct {
		s    string
		base int
		want int
		e    api.Errno
	}{
		{"FFff", 16, 65535, api.OK}, {"200000", 8, 0, api.ErrRange}, {"8", 8, 0, api.ErrSyntax}, {"", 7, 0, api.ErrArg}, // examples
		{"0", 8, 0, api.OK}, {"0", 10, 0, api.OK}, {"0", 16, 0, api.OK}, {"7", 8, 7, api.OK}, {"10", 8, 8, api.OK}, {"9", 10, 9, api.OK}, {"f", 16, 15, api.OK}, {"F", 16, 15, api.OK}, {"aF", 16, 175, api.OK}, {"0123", 8, 83, api.OK}, {"0123", 10, 123, api.OK}, {"0123", 16, 291, api.OK},
		{"abcd", 16, 43981, api.OK}, {"ABCD", 16, 43981, api.OK}, {"ef", 16, 239, api.OK}, {"EF", 16, 239, api.OK}, {"4567", 8, 2423, api.OK}, {"56789", 10, 56789, api.OK}, {"6789", 16, 26505, api.OK},
		{"177777", 8, 65535, api.OK}, {"65535", 10, 65535, api.OK}, {"ffff", 16, 65535, api.OK}, {"65536", 10, 0, api.ErrRange}, {"10000", 16, 0, api.ErrRange}, {"99999", 10, 0, api.ErrRange}, {"777777", 8, 0, api.ErrRange}, {"100000", 10, 0, api.ErrRange}, {"131072", 10, 0, api.ErrRange},
		{"00000000000000000000000000000000000000000000065535", 10, 65535, api.OK}, {"00", 8, 0, api.OK}, {"0000000", 16, 0, api.OK}, {"0200000", 8, 0, api.ErrRange},
		{"18446744073709551616", 10, 0, api.ErrRange}, {"18446744073709551617", 10, 0, api.ErrRange}, {"9223372036854775808", 10, 0, api.ErrRange}, {"10000000000000000", 16, 0, api.ErrRange}, {"100000000000000000000000000000000", 16, 0, api.ErrRange}, {"2000000000000000000000", 8, 0, api.ErrRange}, {"6553600000000000000000000000000000000000000000000001", 10, 0, api.ErrRange},
		{"9", 8, 0, api.ErrSyntax}, {"18", 8, 0, api.ErrSyntax}, {"a", 8, 0, api.ErrSyntax}, {"a", 10, 0, api.ErrSyntax}, {"A", 10, 0, api.ErrSyntax}, {"1f", 10, 0, api.ErrSyntax}, {"g", 16, 0, api.ErrSyntax}, {"G", 16, 0, api.ErrSyntax}, {"fg", 16, 0, api.ErrSyntax}, {"@", 16, 0, api.ErrSyntax}, {"`", 16, 0, api.ErrSyntax}, {"/", 16, 0, api.ErrSyntax}, {":", 16, 0, api.ErrSyntax},
		{"", 8, 0, api.ErrSyntax}, {"", 10, 0, api.ErrSyntax}, {"", 16, 0, api.ErrSyntax}, {"-1", 10, 0, api.ErrSyntax}, {"+1", 10, 0, api.ErrSyntax}, {"-0", 10, 0, api.ErrSyntax}, {"-", 10, 0, api.ErrSyntax}, {" 1", 10, 0, api.ErrSyntax}, {"1 ", 10, 0, api.ErrSyntax}, {"1 2", 10, 0, api.ErrSyntax}, {"\t1", 10, 0, api.ErrSyntax}, {"1\n", 10, 0, api.ErrSyntax}, {"1_0", 10, 0, api.ErrSyntax}, {"0x1f", 16, 0, api.ErrSyntax}, {"0o17", 8, 0, api.ErrSyntax}, {"1.0", 10, 0, api.ErrSyntax}, {"1e3", 10, 0, api.ErrSyntax}, {"1\x00", 10, 0, api.ErrSyntax}, {"١", 10, 0, api.ErrSyntax}, {"\xff", 16, 0, api.ErrSyntax}, {"1\xb2", 10, 0, api.ErrSyntax},
		{"65536x", 10, 0, api.ErrSyntax}, {"99999999999999999999999999999999x", 10, 0, api.ErrSyntax}, {"2000008", 8, 0, api.ErrSyntax}, {"-65536", 10, 0, api.ErrSyntax}, {"x65536", 10, 0, api.ErrSyntax},
		{"1", 0, 0, api.ErrArg}, {"1", 2, 0, api.ErrArg}, {"", 0, 0, api.ErrArg}, {"x", 11, 0, api.ErrArg}, {"99999999", 36, 0, api.ErrArg},
	} {
		if got, e := radix.Parse(k.s, k.base); got != k.want || e != k.e {
			t.Errorf("Parse(%q, %d) = %d, %d, want %d, %d", k.s, k.base, got, e, k.want, k.e)
		}
	}
}

// checkParse compares with regular expressions and with numbers of any size.
func checkParse(t *testing.T, s string, base int) {
	t.Helper()
	digits := map[int]string{8: `\A[0-7]+\z`, 10: `\A[0-9]+\z`, 16: `\A[0-9a-fA-F]+\z`}
	want, e := 0, api.OK
	if !regexp.MustCompile(digits[base]).MatchString(s) {
		e = api.ErrSyntax
	} else if n, _ := new(big.Int).SetString(s, base); n.Cmp(big.NewInt(65535)) > 0 {
		e = api.ErrRange
	} else {
		want = int(n.Int64())
	}
	if got, f := radix.Parse(s, base); got != want || f != e {
		t.Fatalf("Parse(%q, %d) = %d, %d, want %d, %d", s, base, got, f, want, e)
	}
}

func TestParse(t *testing.T) {
	for _, base := range bases {
		for _, s := range lists([]string{"0", "1", "6", "7", "9", "5535", "ffff", "F", "-"}, 4) {
			checkParse(t, s, base)
		}
	}
}

func TestParseOfEveryByte(t *testing.T) {
	for _, base := range bases {
		for c := range 256 {
			for _, s := range []string{string([]byte{byte(c)}), string([]byte{'1', byte(c)}), string([]byte{byte(c), '1'}), string([]byte{'9', '9', '9', '9', '9', '9', byte(c)})} {
				checkParse(t, s, base)
			}
		}
	}
}

func TestParseOfAnotherBase(t *testing.T) {
	for _, base := range wrongBases {
		for _, s := range []string{"", "0", "1", "x", "-1", "65536"} {
			if got, e := radix.Parse(s, base); got != 0 || e != api.ErrArg {
				t.Errorf("Parse(%q, %d) = %d, %d, want 0, %d", s, base, got, e, api.ErrArg)
			}
		}
	}
}

// P2.4

func TestFieldsCases(t *testing.T) {
	for _, k := range []struct {
		s    string
		want []string
	}{
		{" a\tb  c ", []string{"a", "b", "c"}}, // example
		{"", nil}, {" ", nil}, {"\t", nil}, {" \t \t\t", nil}, {"a", []string{"a"}}, {"abc", []string{"abc"}}, {" abc", []string{"abc"}}, {"abc\t", []string{"abc"}}, {"c b a b", []string{"c", "b", "a", "b"}}, {"\t\ta\t b", []string{"a", "b"}},
		{"a\nb", []string{"a\nb"}}, {"\n", []string{"\n"}}, {"a \r\n b", []string{"a", "\r\n", "b"}}, {"a\vb\fc\x00d", []string{"a\vb\fc\x00d"}}, {"a\u00a0b\u0085c\u2003d", []string{"a\u00a0b\u0085c\u2003d"}}, {"\xff \xa0\t\x85", []string{"\xff", "\xa0", "\x85"}}, {"\xc4\x20\xe2\x09\x80", []string{"\xc4", "\xe2", "\x80"}}, {"\"a b\"", []string{"\"a", "b\""}}, {"é à", []string{"é", "à"}},
	} {
		if got := radix.Fields(k.s); !slices.Equal(got, k.want) {
			t.Errorf("Fields(%q) = %q, want %q", k.s, got, k.want)
		}
	}
}

func TestFields(t *testing.T) {
	field := regexp.MustCompile(`[^ \t]+`)
	for _, s := range lists([]string{" ", "\t", "a", "bc", "\n", "\xff"}, 5) {
		if got, want := radix.Fields(s), field.FindAllString(s, -1); !slices.Equal(got, want) {
			t.Fatalf("Fields(%q) = %q, want %q", s, got, want)
		}
	}
}

func TestFieldsOfEveryByte(t *testing.T) {
	for c := range 256 {
		s := string([]byte{'x', byte(c), 'y'})
		want := []string{s}
		if c == 32 || c == 9 {
			want = []string{"x", "y"}
		}
		if got := radix.Fields(s); !slices.Equal(got, want) {
			t.Errorf("Fields(%q) = %q, want %q", s, got, want)
		}
	}
}

// P2.5

func TestQuoteCases(t *testing.T) {
	for _, k := range []struct{ s, want string }{
		{"a\"\n\x00", `"a\"\n\000"`}, // example
		{"", `""`}, {"a", `"a"`}, {" ~", `" ~"`}, {"Hello, world!", `"Hello, world!"`}, {`"`, `"\""`}, {`\`, `"\\"`}, {`\n`, `"\\n"`}, {`\"`, `"\\\""`}, {"\n", `"\n"`}, {"'", `"'"`},
		{"\t", `"\011"`}, {"\r", `"\015"`}, {"\v", `"\013"`}, {"\x01", `"\001"`}, {"\x1f", `"\037"`}, {"\x7f", `"\177"`}, {"\x80", `"\200"`}, {"\xff", `"\377"`}, {"é", `"\303\251"`}, {"\x001", `"\0001"`},
	} {
		if got := radix.Quote(k.s); got != k.want {
			t.Errorf("Quote(%q) = %s, want %s", k.s, got, k.want)
		}
	}
}

func TestQuoteOfEveryByte(t *testing.T) {
	for c := range 256 {
		want := fmt.Sprintf("\"x\\%03oy\"", c)
		if 32 <= c && c <= 126 {
			want = fmt.Sprintf("\"x%cy\"", c)
		}
		switch c {
		case 10:
			want = `"x\ny"`
		case 34:
			want = `"x\"y"`
		case 92:
			want = `"x\\y"`
		}
		if got := radix.Quote(string([]byte{'x', byte(c), 'y'})); got != want {
			t.Errorf("Quote of x, %d, y = %s, want %s", c, got, want)
		}
	}
}

// P2.6

func TestUnquoteCases(t *testing.T) {
	for _, k := range []struct {
		s, want string
		n       int
	}{
		{`"\101b"`, "Ab", 7}, {`"\101b" and more text`, "Ab", 7}, // example
		{`""`, "", 2}, {`"""`, "", 2}, {`""x`, "", 2}, {`"a"`, "a", 3}, {`"a"b"`, "a", 3}, {`" ~"`, " ~", 4}, {`"a b" c`, "a b", 5}, {`"'"`, "'", 3},
		{`"\""`, `"`, 4}, {`"\\"`, `\`, 4}, {`"\\""`, `\`, 4}, {`"\n"`, "\n", 4}, {`"\\n"`, `\n`, 5}, {`"\"\\\n"x`, "\"\\\n", 8}, {`"\"a\""`, `"a"`, 7},
		{`"\000"`, "\x00", 6}, {`"\377"`, "\xff", 6}, {`"\200"`, "\x80", 6}, {`"\012"`, "\n", 6}, {`"\042"`, `"`, 6}, {`"\134"`, `\`, 6}, {`"\0011"`, "\x011", 7}, {`"\1018"`, "A8", 7}, {`"\101\102"`, "AB", 10}, {`"\303\251"`, "é", 10},
		{"\"a\"\n", "a", 3}, {"\"a\"\xff", "a", 3}, {`"a"\x`, "a", 3},
	} {
		if got, n, e := radix.Unquote(k.s); got != k.want || n != k.n || e != api.OK {
			t.Errorf("Unquote(%q) = %q, %d, %d, want %q, %d, 0", k.s, got, n, e, k.want, k.n)
		}
	}
}

func TestUnquoteErrors(t *testing.T) {
	for _, s := range []string{
		`"\400"`, // example
		``, `a`, `a"b"`, ` "a"`, `'a'`, `\"a"`, "\x00\"a\"",
		`"`, `"a`, `"abc `, `"\`, `"a\`, `"\"`, `"\\`, `"\n`, `"\1`, `"\10`, `"\101`, `"\101a`, `"\0"`, `"\00"`, `"\1"`, `"\10"`, `"\37"`,
		`"\377`, `"\401"`, `"\477"`, `"\500"`, `"\777"`, `"\999"`, `"\08"`, `"\080"`, `"\008"`, `"\800"`, `"\00a"`, `"\0a0"`, `"\-01"`, `"\+01"`, `"\ 01"`, `"\1 1"`, `"\1_1"`,
		`"\x"`, `"\x41"`, `"\t"`, `"\r"`, `"\N"`, `"\'"`, `"\ "`, `"\a"`, "\"\\\n\"", "\"\\\xff\"",
		"\"\n\"", "\"a\nb\"", "\"\t\"", "\"\x00\"", "\"\x1f\"", "\"\x7f\"", "\"\x80\"", "\"\xff\"", `"é"`,
	} {
		if got, n, e := radix.Unquote(s); got != "" || n != 0 || e != api.ErrSyntax {
			t.Errorf("Unquote(%q) = %q, %d, %d, want ErrSyntax", s, got, n, e)
		}
	}
}

var (
	quoted  = regexp.MustCompile(`\A"(?:[ !#-\[\]-~]|\\["\\n]|\\[0-3][0-7][0-7])*"`)
	element = regexp.MustCompile(`\\(?:[0-7]{3}|.)|[^\\]`)
)

// checkUnquote finds the string and its elements with regular expressions.
func checkUnquote(t *testing.T, s string) {
	t.Helper()
	got, n, e := radix.Unquote(s)
	found := quoted.FindString(s)
	if found == "" {
		if got != "" || n != 0 || e != api.ErrSyntax {
			t.Fatalf("Unquote(%q) = %q, %d, %d, want ErrSyntax", s, got, n, e)
		}
		return
	}
	want := element.ReplaceAllStringFunc(found[1:len(found)-1], func(part string) string {
		if part == `\n` {
			return "\n"
		}
		if len(part) == 4 {
			return string([]byte{(part[1]-'0')<<6 + (part[2]-'0')<<3 + part[3] - '0'})
		}
		return part[len(part)-1:]
	})
	if got != want || n != len(found) || e != api.OK {
		t.Fatalf("Unquote(%q) = %q, %d, %d, want %q, %d, 0", s, got, n, e, want, len(found))
	}
}

func TestUnquote(t *testing.T) {
	for _, s := range lists([]string{`"`, `\`, "n", "0", "3", "7", "8", "a", "\n", "\x80"}, 5) {
		checkUnquote(t, s)
		checkUnquote(t, `"`+s)
		checkUnquote(t, `"`+s+`"`)
		checkUnquote(t, `"\`+s+`"n`)
	}
}

func TestUnquoteOfEveryByte(t *testing.T) {
	for c := range 256 {
		b := string([]byte{byte(c)})
		for _, s := range []string{b, b + `a"`, `"` + b + `"`, `"\` + b + `"`, `"\` + b + `11"`, `"\1` + b + `1"`, `"\11` + b + `"`, `""` + b} {
			checkUnquote(t, s)
		}
	}
}

func TestUnquoteOfEveryCode(t *testing.T) {
	for n := range 512 {
		checkUnquote(t, fmt.Sprintf(`"\%03o"`, n))
	}
}

// P2.7

func TestParseOfPrintedWords(t *testing.T) {
	for _, base := range bases {
		for w := range 65536 {
			for _, s := range []string{radix.Format(w, base), radix.Pad(w, base, w%70)} {
				if got, e := radix.Parse(s, base); got != w || e != api.OK {
					t.Fatalf("Parse(%q, %d) = %d, %d, want %d", s, base, got, e, w)
				}
			}
		}
	}
}

// P2.8

func TestUnquoteOfQuotedTexts(t *testing.T) {
	texts := append(lists([]string{`"`, `\`, "n", "\n", "0", "7", "\x00", "\xff"}, 4), everyByte(), everyByte()+everyByte(), strings.Repeat(`\"`, 1000))
	for _, s := range texts {
		q := radix.Quote(s)
		for _, rest := range []string{"", `"`, "x", `\`, " \"a\"", "0", "\n", "\xff"} {
			if got, n, e := radix.Unquote(q + rest); got != s || n != len(q) || e != api.OK {
				t.Fatalf("Unquote(%q) = %q, %d, %d, want %q, %d", q+rest, got, n, e, s, len(q))
			}
		}
	}
}

// P2.9

func TestFieldsOfJoinedFields(t *testing.T) {
	for _, s := range append(lists([]string{" ", "\t", "a", "\n", "\x80"}, 6), everyByte(), everyByte()+everyByte()) {
		fields := radix.Fields(s)
		if got := radix.Fields(strings.Join(fields, " ")); !slices.Equal(got, fields) {
			t.Fatalf("the fields of %q are %q, then %q", s, fields, got)
		}
	}
}

func TestFieldsOfGivenFields(t *testing.T) {
	for _, fields := range [][]string{nil, {"a"}, {"a", "b"}, {"r", "0", "177777"}, {"\n", "\xff", "\"", "\v"}, {"x", "x", "x"}} {
		for _, blank := range []string{" ", "  ", "\t", " \t "} {
			if got := radix.Fields(strings.Join(fields, blank)); !slices.Equal(got, fields) {
				t.Errorf("the fields %q, joined with %q, are %q", fields, blank, got)
			}
		}
	}
}
