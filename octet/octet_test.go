package octet_test

import (
	"encoding/binary"
	"fmt"
	"hash/crc32"
	"math"
	"math/big"
	"math/rand"
	"slices"
	"strings"
	"testing"

	"emulator/api"
	"emulator/octet"
)

// numbers has the numbers at which bytes begin and end, and the greatest and least.
var numbers = []int{0, 1, 2, 65, 127, 128, 255, 256, 257, 258, 511, 512, 32767, 32768, 65535, 65536, 65537, 1<<24 - 1, 1 << 24, 1<<31 - 1, 1 << 31, 1<<32 - 1, 1 << 32, 1<<40 - 1, 1 << 40, 1<<48 - 1, 1 << 48, 1<<56 - 1, 1 << 56, 0x0102030405060708, 0x7FEEDDCCBBAA9988, math.MaxInt - 1, math.MaxInt}

// negatives has numbers below 0.
var negatives = []int{-1, -2, -255, -256, -65536, math.MinInt + 1, math.MinInt}

// farInts has ints that are far from every length.
var farInts = []int{math.MinInt, math.MinInt + 1, math.MinInt + 2, math.MinInt + 7, -1 << 32, 1 << 31, 1 << 32, math.MaxInt - 7, math.MaxInt - 2, math.MaxInt - 1, math.MaxInt}

// bytesOf returns the lowest bytes of a number that is not negative, by division.
func bytesOf(n, width int) string {
	var b []byte
	for range width {
		b = append(b, byte(n%256))
		n /= 256
	}
	return string(b)
}

// valueOf returns the integer with these bytes.
func valueOf(s string) int {
	b := []byte(s)
	slices.Reverse(b)
	return int(new(big.Int).SetBytes(b).Int64())
}

// counting returns n bytes that differ from their neighbours.
func counting(n int) string {
	b := make([]byte, n)
	for i := range b {
		b[i] = byte(i*7 + i/256)
	}
	return string(b)
}

// texts has strings of many lengths and contents.
func texts() []string {
	all := []string{"", "a", "ab", "123456789", "\x00", "\x00\x00", "\xff\xff\xff\xff", "\x00\x00\x00\x00", "\x03\x00ab", "häß€", "EMU1"}
	r := rand.New(rand.NewSource(3))
	for n := range 300 {
		b := make([]byte, n)
		r.Read(b)
		all = append(all, string(b))
	}
	return append(all, strings.Repeat("\x00", 4096), strings.Repeat("\xff", 4097), counting(65535))
}

// P3.1

func TestPutCases(t *testing.T) {
	for _, k := range []struct {
		n, width int
		want     string
	}{
		{258, 3, "\x02\x01\x00"}, // an example
		{0, 1, "\x00"}, {0, 4, "\x00\x00\x00\x00"}, {255, 1, "\xff"}, {256, 1, "\x00"}, {256, 2, "\x00\x01"}, {65535, 2, "\xff\xff"}, {65536, 2, "\x00\x00"}, {65536, 3, "\x00\x00\x01"}, {0x12345678, 4, "\x78\x56\x34\x12"}, {0x12345678, 3, "\x78\x56\x34"},
		{0x7102030405060708, 8, "\x08\x07\x06\x05\x04\x03\x02\x71"}, {0x7102030405060708, 7, "\x08\x07\x06\x05\x04\x03\x02"}, {math.MaxInt, 8, "\xff\xff\xff\xff\xff\xff\xff\x7f"},
		{5, 0, ""}, {5, -1, ""}, {5, -8, ""}, {5, math.MinInt, ""}, {0, 0, ""}, // a width below 0 counts as 0
		{5, 9, "\x05\x00\x00\x00\x00\x00\x00\x00"}, {258, 100, "\x02\x01\x00\x00\x00\x00\x00\x00"}, {1, math.MaxInt, "\x01\x00\x00\x00\x00\x00\x00\x00"}, // one above 8 as 8
		{-1, 1, "\x00"}, {-1, 2, "\x00\x00"}, {-258, 3, "\x00\x00\x00"}, {-1, 8, "\x00\x00\x00\x00\x00\x00\x00\x00"}, {math.MinInt, 9, "\x00\x00\x00\x00\x00\x00\x00\x00"}, {-5, -5, ""}, {math.MinInt, math.MinInt, ""}, // a negative n counts as 0
	} {
		if got := octet.Put(k.n, k.width); got != k.want {
			t.Errorf("Put(%d, %d) = %q, want %q", k.n, k.width, got, k.want)
		}
	}
}

func TestPut(t *testing.T) {
	for _, n := range numbers {
		var whole [8]byte
		binary.LittleEndian.PutUint64(whole[:], uint64(n))
		for width := -3; width <= 12; width++ {
			if got, want := octet.Put(n, width), string(whole[:max(0, min(width, 8))]); got != want {
				t.Errorf("Put(%d, %d) = %q, want %q", n, width, got, want)
			}
		}
	}
	for _, n := range negatives {
		for width := -3; width <= 12; width++ {
			if got, want := octet.Put(n, width), strings.Repeat("\x00", max(0, min(width, 8))); got != want {
				t.Errorf("Put(%d, %d) = %q, want %q", n, width, got, want)
			}
		}
	}
}

// P3.2

func TestGetCases(t *testing.T) {
	for _, k := range []struct {
		s         string
		at, width int
		n, next   int
		e         api.Errno
	}{
		{"\x02\x01\x00", 0, 2, 258, 2, api.OK}, {"\x02\x01\x00", 0, 4, 0, 0, api.ErrShort}, {"\x02\x01\x00", 0, 8, 0, 0, api.ErrArg}, // examples
		{"\x02\x01\x00", 0, 3, 258, 3, api.OK}, {"\x02\x01\x00", 1, 1, 1, 2, api.OK}, {"\x02\x01\x00", 1, 2, 1, 3, api.OK}, {"\x02\x01\x00", 2, 1, 0, 3, api.OK},
		{"\xff\xff\xff\xff\xff\xff\xff\xff", 0, 7, 1<<56 - 1, 7, api.OK}, {"\xff\xff\xff\xff\xff\xff\xff\xff", 1, 7, 1<<56 - 1, 8, api.OK}, {"\x80", 0, 1, 128, 1, api.OK}, {"\xff\x80", 0, 2, 0x80FF, 2, api.OK},
		{"\x02\x01\x00", 2, 2, 0, 0, api.ErrShort}, {"\x02\x01\x00", 3, 1, 0, 0, api.ErrShort}, {"", 0, 1, 0, 0, api.ErrShort}, {"", 0, 7, 0, 0, api.ErrShort}, {"abcdef", 0, 7, 0, 0, api.ErrShort},
		{"\x02\x01\x00", 4, 1, 0, 0, api.ErrArg}, {"\x02\x01\x00", -1, 1, 0, 0, api.ErrArg}, {"", 1, 1, 0, 0, api.ErrArg}, {"", -1, 1, 0, 0, api.ErrArg},
		{"\x02\x01\x00", 0, 0, 0, 0, api.ErrArg}, {"\x02\x01\x00", 0, -1, 0, 0, api.ErrArg}, {"", 0, 0, 0, 0, api.ErrArg}, {"0123456789", 0, 8, 0, 0, api.ErrArg}, {"", 0, 8, 0, 0, api.ErrArg}, {"", 5, 0, 0, 0, api.ErrArg},
	} {
		n, next, e := octet.Get(k.s, k.at, k.width)
		if n != k.n || next != k.next || e != k.e {
			t.Errorf("Get(%q, %d, %d) = %d, %d, %d, want %d, %d, %d", k.s, k.at, k.width, n, next, e, k.n, k.next, k.e)
		}
	}
}

func TestGet(t *testing.T) {
	for length := range 20 {
		s := strings.Repeat("\xf1\x02\x93\x84\x75", 4)[:length]
		for at := -3; at <= length+3; at++ {
			for width := -3; width <= 12; width++ {
				n, next, e := octet.Get(s, at, width)
				wantN, wantNext, wantE := 0, 0, api.OK
				switch {
				case width < 1 || width > 7 || at < 0 || at > length:
					wantE = api.ErrArg
				case at+width > length:
					wantE = api.ErrShort
				default:
					wantN, wantNext = valueOf(s[at:at+width]), at+width
				}
				if n != wantN || next != wantNext || e != wantE {
					t.Fatalf("Get(%q, %d, %d) = %d, %d, %d, want %d, %d, %d", s, at, width, n, next, e, wantN, wantNext, wantE)
				}
			}
		}
	}
}

func TestGetEveryByte(t *testing.T) {
	for c := range 256 {
		for place := range 7 {
			b := make([]byte, 7)
			b[place] = byte(c)
			if n, next, e := octet.Get("x"+string(b)+"y", 1, 7); n != c<<(8*place) || next != 8 || e != api.OK {
				t.Errorf("Get of the byte %d at place %d = %d, %d, %d", c, place, n, next, e)
			}
		}
	}
}

func TestGetFarArguments(t *testing.T) {
	for _, s := range []string{"", "a", "0123456789"} {
		for _, far := range farInts {
			for _, k := range [][2]int{{far, 1}, {far, 7}, {0, far}, {len(s), far}, {far, far}} {
				if n, next, e := octet.Get(s, k[0], k[1]); n != 0 || next != 0 || e != api.ErrArg {
					t.Errorf("Get(%q, %d, %d) = %d, %d, %d, want ErrArg", s, k[0], k[1], n, next, e)
				}
			}
		}
	}
}

// P3.3

func TestPutTextCases(t *testing.T) {
	for _, k := range []struct{ s, want string }{
		{"ab", "\x02\x00ab"}, // an example
		{"", "\x00\x00"}, {"a", "\x01\x00a"}, {"\x00", "\x01\x00\x00"}, {"\xff\xfe", "\x02\x00\xff\xfe"}, {"é", "\x02\x00\xc3\xa9"},
		{strings.Repeat("x", 255), "\xff\x00" + strings.Repeat("x", 255)}, {strings.Repeat("x", 256), "\x00\x01" + strings.Repeat("x", 256)}, {strings.Repeat("x", 258), "\x02\x01" + strings.Repeat("x", 258)},
	} {
		if got := octet.PutText(k.s); got != k.want {
			t.Errorf("PutText(%q) = %q, want %q", k.s, got, k.want)
		}
	}
}

func TestPutTextOfLongStrings(t *testing.T) {
	whole := counting(140000)
	for _, length := range []int{65534, 65535, 65536, 65537, 65540, 131071, 131072, 140000} {
		kept := min(length, 65535)
		if got := octet.PutText(whole[:length]); got != bytesOf(kept, 2)+whole[:kept] {
			t.Errorf("PutText of %d bytes has %d bytes and begins with %q", length, len(got), got[:4])
		}
	}
}

func TestGetTextCases(t *testing.T) {
	for _, k := range []struct {
		s    string
		at   int
		text string
		next int
		e    api.Errno
	}{
		{"\x02\x00ab", 0, "ab", 4, api.OK}, {"\x00\x00", 0, "", 2, api.OK}, {"x\x01\x00ay", 1, "a", 4, api.OK}, {"\x02\x00ab\x01\x00c", 4, "c", 7, api.OK}, {"\x01\x00\x00", 1, "", 3, api.OK}, {"\x02\x00abc", 0, "ab", 4, api.OK},
		{"", 0, "", 0, api.ErrShort}, {"\x00", 0, "", 0, api.ErrShort}, {"\x03", 0, "", 0, api.ErrShort}, {"ab", 1, "", 0, api.ErrShort}, {"ab", 2, "", 0, api.ErrShort}, // the length is not all there
		{"\x01\x00", 0, "", 0, api.ErrShort}, {"\x03\x00ab", 0, "", 0, api.ErrShort}, {"\x00\x01ab", 0, "", 0, api.ErrShort}, {"\xff\xffab", 0, "", 0, api.ErrShort}, // the string is not all there
		{"", 1, "", 0, api.ErrArg}, {"", -1, "", 0, api.ErrArg}, {"\x02\x00ab", 5, "", 0, api.ErrArg}, {"\x02\x00ab", -1, "", 0, api.ErrArg}, {"\x02\x00ab", math.MinInt, "", 0, api.ErrArg}, {"\x02\x00ab", math.MaxInt, "", 0, api.ErrArg},
	} {
		text, next, e := octet.GetText(k.s, k.at)
		if text != k.text || next != k.next || e != k.e {
			t.Errorf("GetText(%q, %d) = %q, %d, %d, want %q, %d, %d", k.s, k.at, text, next, e, k.text, k.next, k.e)
		}
	}
}

func TestGetTextAtEveryOffset(t *testing.T) {
	s := "\x00\x00\x01\x00a\x03\x00abc\x00\x02\x01\x00"
	for end := range len(s) + 1 {
		for at := -2; at <= end+2; at++ {
			text, next, e := octet.GetText(s[:end], at)
			wantText, wantNext, wantE := "", 0, api.OK
			switch {
			case at < 0 || at > end:
				wantE = api.ErrArg
			case at+2 > end || at+2+valueOf(s[at:at+2]) > end:
				wantE = api.ErrShort
			default:
				wantNext = at + 2 + valueOf(s[at:at+2])
				wantText = s[at+2 : wantNext]
			}
			if text != wantText || next != wantNext || e != wantE {
				t.Errorf("GetText(%q, %d) = %q, %d, %d, want %q, %d, %d", s[:end], at, text, next, e, wantText, wantNext, wantE)
			}
		}
	}
}

func TestGetTextOfTheLongestString(t *testing.T) {
	s := "\xff\xff" + counting(65535)
	if text, next, e := octet.GetText(s, 0); text != s[2:] || next != len(s) || e != api.OK {
		t.Errorf("GetText of the longest string: %d bytes, %d, %d", len(text), next, e)
	}
	if text, next, e := octet.GetText(s[:len(s)-1], 0); text != "" || next != 0 || e != api.ErrShort {
		t.Errorf("GetText of it without its last byte: %d bytes, %d, %d", len(text), next, e)
	}
}

// P3.4

func TestPutWordsCases(t *testing.T) {
	for _, k := range []struct {
		l    []int
		want string
	}{
		{[]int{65, -1}, "A\x00\xff\xff"}, // an example
		{nil, ""}, {[]int{}, ""}, {[]int{0}, "\x00\x00"}, {[]int{258}, "\x02\x01"}, {[]int{65535}, "\xff\xff"}, {[]int{65536}, "\x00\x00"}, {[]int{65537, 1 << 40}, "\x01\x00\x00\x00"}, {[]int{-2, -256, -65535, -65536}, "\xfe\xff\x00\xff\x01\x00\x00\x00"},
		{[]int{1, 2, 3}, "\x01\x00\x02\x00\x03\x00"}, {[]int{math.MaxInt, math.MinInt, math.MinInt + 1}, "\xff\xff\x00\x00\x01\x00"},
	} {
		kept := slices.Clone(k.l)
		if got := octet.PutWords(k.l); got != k.want {
			t.Errorf("PutWords(%d) = %q, want %q", k.l, got, k.want)
		}
		if !slices.Equal(k.l, kept) {
			t.Errorf("PutWords has changed %d to %d", kept, k.l)
		}
	}
}

func TestPutWordsOfEveryWord(t *testing.T) {
	var l []int
	var want strings.Builder
	for n := -70000; n <= 140000; n++ {
		l = append(l, n)
		want.WriteString(bytesOf(((n%65536)+65536)%65536, 2))
	}
	if got := octet.PutWords(l); got != want.String() {
		t.Error("PutWords of many numbers is wrong")
	}
}

func TestGetWordsCases(t *testing.T) {
	for _, k := range []struct {
		s    string
		want []int
		e    api.Errno
	}{
		{"A\x00\xff\xff", []int{65, 65535}, api.OK}, {"", nil, api.OK}, {"\x00\x00", []int{0}, api.OK}, {"\x02\x01", []int{258}, api.OK}, {"\x00\x80\xff\x7f", []int{32768, 32767}, api.OK},
		{"a", nil, api.ErrForm}, {"abc", nil, api.ErrForm}, {"\x00\x00\x00\x00\x00", nil, api.ErrForm}, {strings.Repeat("a", 1001), nil, api.ErrForm},
	} {
		got, e := octet.GetWords(k.s)
		if !slices.Equal(got, k.want) || e != k.e {
			t.Errorf("GetWords(%q) = %d, %d, want %d, %d", k.s, got, e, k.want, k.e)
		}
	}
}

func TestGetWordsOfEveryWord(t *testing.T) {
	for w := range 65536 {
		s := string([]byte{byte(w % 256), byte(w / 256)})
		if got, e := octet.GetWords(s); len(got) != 1 || got[0] != w || e != api.OK {
			t.Fatalf("GetWords(%q) = %d, %d, want %d", s, got, e, w)
		}
	}
}

func TestGetWordsOfEveryLength(t *testing.T) {
	for length := range 200 {
		got, e := octet.GetWords(counting(length))
		if length%2 == 1 {
			if len(got) != 0 || e != api.ErrForm {
				t.Errorf("GetWords of %d bytes has %d words and the error %d", length, len(got), e)
			}
			continue
		}
		if len(got) != length/2 || e != api.OK {
			t.Errorf("GetWords of %d bytes has %d words and the error %d", length, len(got), e)
		}
	}
}

// P3.5

func TestCrcCases(t *testing.T) {
	for _, k := range []struct {
		s    string
		want int
	}{
		{"", 0}, {"123456789", 0xCBF43926}, // examples
		{"a", 0xE8B7BE43}, {"abc", 0x352441C2}, {"\x00", 0xD202EF8D}, {"\xff", 0xFF000000}, {"\x00\x00\x00\x00", 0x2144DF1C}, {"\xff\xff\xff\xff", 0xFFFFFFFF}, {"The quick brown fox jumps over the lazy dog", 0x414FA339},
	} {
		if got := octet.Crc(k.s); got != k.want {
			t.Errorf("Crc(%q) = %#x, want %#x", k.s, got, k.want)
		}
	}
}

// bitwiseCrc follows the definition bit by bit.
func bitwiseCrc(s string) int {
	sum := 0xFFFFFFFF
	for _, c := range []byte(s) {
		for bit := range 8 {
			low := sum ^ int(c)>>bit
			sum /= 2
			if low%2 == 1 {
				sum ^= 0xEDB88320
			}
		}
	}
	return sum ^ 0xFFFFFFFF
}

func TestCrc(t *testing.T) {
	check := func(s string) {
		if got, want := octet.Crc(s), bitwiseCrc(s); got != want || want != int(crc32.ChecksumIEEE([]byte(s))) {
			t.Fatalf("Crc(%.20q) = %#x, want %#x", s, got, want)
		}
	}
	for a := range 256 {
		check(string([]byte{byte(a)}))
		for b := range 256 {
			check(string([]byte{byte(a), byte(b)}))
		}
	}
	for _, s := range texts() {
		check(s)
	}
}

// P3.6

func TestSealCases(t *testing.T) {
	for _, k := range []struct{ s, want string }{
		{"", "\x00\x00\x00\x00"}, {"123456789", "123456789\x26\x39\xf4\xcb"}, {"a", "a\x43\xbe\xb7\xe8"}, {"\xff", "\xff\x00\x00\x00\xff"},
	} {
		if got := octet.Seal(k.s); got != k.want {
			t.Errorf("Seal(%q) = %q, want %q", k.s, got, k.want)
		}
	}
}

func TestSeal(t *testing.T) {
	for _, s := range texts() {
		if got, want := octet.Seal(s), s+bytesOf(int(crc32.ChecksumIEEE([]byte(s))), 4); got != want {
			t.Fatalf("Seal(%.20q) is wrong", s)
		}
	}
}

func TestOpenCases(t *testing.T) {
	for _, k := range []struct {
		s, want string
		e       api.Errno
	}{
		{"\x00\x00\x00\x00", "", api.OK}, {"abc", "", api.ErrShort}, // examples
		{"123456789\x26\x39\xf4\xcb", "123456789", api.OK}, {"a\x43\xbe\xb7\xe8", "a", api.OK}, {"\xff\x00\x00\x00\xff", "\xff", api.OK},
		{"", "", api.ErrShort}, {"\x00", "", api.ErrShort}, {"\x00\x00", "", api.ErrShort}, {"\x00\x00\x00", "", api.ErrShort},
		{"abcd", "", api.ErrSum}, {"\x00\x00\x00\x01", "", api.ErrSum}, {"\x00\x00\x00\x00\x00", "", api.ErrSum}, {"\x01\x00\x00\x00", "", api.ErrSum}, {"123456780\x26\x39\xf4\xcb", "", api.ErrSum}, {"123456789\xcb\xf4\x39\x26", "", api.ErrSum}, {"12345678\x26\x39\xf4\xcb", "", api.ErrSum}, {"a\x43\xbe\xb7\xe8\x00", "", api.ErrSum}, {"a\x43\xbe\xb7", "", api.ErrSum},
	} {
		got, e := octet.Open(k.s)
		if got != k.want || e != k.e {
			t.Errorf("Open(%q) = %q, %d, want %q, %d", k.s, got, e, k.want, k.e)
		}
	}
}

// P3.7

func TestGetOfPut(t *testing.T) {
	for _, n := range numbers {
		for width := 1; width <= 7; width++ {
			if n >= 1<<(8*width) {
				continue
			}
			for _, around := range [][2]string{{"", ""}, {"x", ""}, {"", "y"}, {"\xff\xff", "\xff"}} {
				at := len(around[0])
				if got, next, e := octet.Get(around[0]+octet.Put(n, width)+around[1], at, width); got != n || next != at+width || e != api.OK {
					t.Errorf("Get of Put(%d, %d) between %q = %d, %d, %d", n, width, around, got, next, e)
				}
			}
		}
	}
}

func TestGetTextOfPutText(t *testing.T) {
	for _, s := range texts() {
		for _, around := range [][2]string{{"", ""}, {"x", ""}, {"", "y"}, {"\x09", "\x00\x00"}, {"before", "behind"}} {
			at := len(around[0])
			if got, next, e := octet.GetText(around[0]+octet.PutText(s)+around[1], at); got != s || next != at+2+len(s) || e != api.OK {
				t.Fatalf("GetText of PutText(%.20q) between %q: %d bytes, %d, %d", s, around, len(got), next, e)
			}
		}
	}
}

func TestGetWordsOfPutWords(t *testing.T) {
	r := rand.New(rand.NewSource(5))
	for length := range 300 {
		l := make([]int, length)
		for i := range l {
			l[i] = r.Intn(65536)
		}
		if got, e := octet.GetWords(octet.PutWords(l)); !slices.Equal(got, l) || e != api.OK {
			t.Fatalf("GetWords of PutWords(%d) = %d, %d", l, got, e)
		}
	}
}

func TestOpenOfSeal(t *testing.T) {
	for _, s := range texts() {
		if got, e := octet.Open(octet.Seal(s)); got != s || e != api.OK {
			t.Fatalf("Open of Seal(%.20q): %d bytes, %d", s, len(got), e)
		}
	}
}

func TestOpenOfAChangedBit(t *testing.T) {
	for _, s := range []string{"", "a", "ab", "123456789", "\x00\x00\x00\x00", "\xff\xff\xff\xff\xff", counting(300)} {
		sealed := octet.Seal(s)
		for i := range len(sealed) {
			for bit := range 8 {
				b := []byte(sealed)
				b[i] ^= 1 << bit
				if got, e := octet.Open(string(b)); got != "" || e != api.ErrSum {
					t.Fatalf("Open of Seal(%.20q) with bit %d of byte %d changed = %q, %d, want ErrSum", s, bit, i, got, e)
				}
			}
		}
	}
}

// The results of two calls share no memory, and a call leaves what an earlier one returned as it is.
func TestResultsAreNew(t *testing.T) {
	first, _ := octet.GetWords("\x01\x00\x02\x00")
	second, _ := octet.GetWords("\x01\x00\x02\x00")
	first[0] = 99
	first = append(first[:1], 77)
	if fmt.Sprint(second) != "[1 2]" {
		t.Errorf("GetWords returned shared memory: %d, %d", first, second)
	}
}
