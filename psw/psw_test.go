package psw_test

import (
	"math"
	"testing"

	"emulator/psw"
)

// wild has integers that are no words.
var wild = []int{-1, -2, -15, -16, -17, -256, -16384, -16385, -32768, -32769, -49407, -49408, -65535, -65536, -65537, 65536, 65537, 65536 + 49407, 1<<31 - 1, 1 << 31, -1 << 31, 1<<32 + 49407, 1 << 40, 1<<62 + 21, math.MaxInt - 1, math.MaxInt, math.MinInt, math.MinInt + 1, math.MinInt + 49407}

// absent has words whose bits do not exist, one by one and all of them.
var absent = []int{256, 512, 1024, 2048, 4096, 8192, 0x3F00}

// The numbers of bits.
const (
	codeC    = 0
	codeV    = 1
	codeZ    = 2
	codeN    = 3
	trace    = 4
	previous = 14
	current  = 15
)

// bit returns a bit of the lowest 16 bits of an integer, written with division so that it shares nothing with a mask.
func bit(w, i int) int {
	w %= 65536
	if w < 0 {
		w += 65536
	}
	for range i {
		w /= 2
	}
	return w % 2
}

// exists reports whether a processor status word has the bit.
func exists(i int) bool {
	return i < 8 || i == 14 || i == 15
}

// build returns the word whose existing bits i are those of the integers source(i).
func build(source func(i int) int) int {
	w, power := 0, 1
	for i := range 16 {
		if exists(i) {
			w += bit(source(i), i) * power
		}
		power *= 2
	}
	return w
}

// valid returns all 1024 valid words.
func valid() []int {
	var all []int
	for high := range 4 {
		for low := range 256 {
			all = append(all, high*16384+low)
		}
	}
	return all
}

// samples returns valid words, words with bits that do not exist, and integers that are no words.
func samples() []int {
	all := append(append([]int{}, wild...), absent...)
	for i, w := range valid() {
		if i%7 == 0 || w%256 == 255 {
			all = append(all, w, w+absent[i%len(absent)], w-65536, w+65536*i)
		}
	}
	return all
}

// integers returns every word, integers around them, and some that are far from them.
func integers() []int {
	all := append([]int{}, wild...)
	for w := -70000; w <= 140000; w++ {
		all = append(all, w)
	}
	return all
}

// P4.1

func TestValidCases(t *testing.T) {
	for _, k := range []struct {
		w    int
		want bool
	}{
		{49407, true}, {256, false}, {-1, false}, {65536, false}, // examples
		{0, true}, {1, true}, {15, true}, {16, true}, {255, true}, {0x4000, true}, {0x8000, true}, {0xC000, true}, {0x40E0, true},
		{0x200, false}, {0x400, false}, {0x800, false}, {0x1000, false}, {0x2000, false}, {0x3F00, false}, {0xC1FF, false}, {0xFFFF, false}, {49408, false},
		{65536 + 15, false}, {1 << 40, false}, {-65536, false}, {-16384, false}, {math.MaxInt, false}, {math.MinInt, false},
	} {
		if got := psw.Valid(k.w); got != k.want {
			t.Errorf("Valid(%#x) = %v, want %v", k.w, got, k.want)
		}
	}
}

func TestValid(t *testing.T) {
	for _, w := range integers() {
		want := w >= 0 && w <= 65535 && build(func(int) int { return w }) == w
		if got := psw.Valid(w); got != want {
			t.Fatalf("Valid(%#x) = %v, want %v", w, got, want)
		}
	}
}

func TestFieldsCases(t *testing.T) {
	for _, k := range []struct {
		w, mode, previous, priority, flags int
		trace                              bool
	}{
		{0, 0, 0, 0, 0, false}, {49407, 1, 1, 7, 15, true}, {0x8000, 1, 0, 0, 0, false}, {0x4000, 0, 1, 0, 0, false}, {0x0020, 0, 0, 1, 0, false}, {0x0080, 0, 0, 4, 0, false}, {0x00E0, 0, 0, 7, 0, false}, {0x0010, 0, 0, 0, 0, true},
		{1, 0, 0, 0, 1, false}, {2, 0, 0, 0, 2, false}, {4, 0, 0, 0, 4, false}, {8, 0, 0, 0, 8, false}, {0x80B6, 1, 0, 5, 6, true},
		{0x3F00, 0, 0, 0, 0, false}, {0xBF28, 1, 0, 1, 8, false}, {0x1000, 0, 0, 0, 0, false}, {0x2000, 0, 0, 0, 0, false}, {0x0100, 0, 0, 0, 0, false}, // bits that do not exist
		{-1, 1, 1, 7, 15, true}, {65536, 0, 0, 0, 0, false}, {65536 + 0x40C9, 0, 1, 6, 9, false}, {-65536, 0, 0, 0, 0, false}, {-32768, 1, 0, 0, 0, false}, {-49152, 0, 1, 0, 0, false}, {math.MaxInt, 1, 1, 7, 15, true}, {math.MinInt, 0, 0, 0, 0, false}, // only the lowest 16 bits count
	} {
		checkFields(t, k.w, k.mode, k.previous, k.priority, k.flags, k.trace)
	}
}

func checkFields(t *testing.T, w, wantMode, wantPrevious, wantPriority, wantFlags int, wantTrace bool) {
	t.Helper()
	if got := psw.Mode(w); got != wantMode {
		t.Fatalf("Mode(%#x) = %d, want %d", w, got, wantMode)
	}
	if got := psw.Previous(w); got != wantPrevious {
		t.Fatalf("Previous(%#x) = %d, want %d", w, got, wantPrevious)
	}
	if got := psw.Priority(w); got != wantPriority {
		t.Fatalf("Priority(%#x) = %d, want %d", w, got, wantPriority)
	}
	if got := psw.Flags(w); got != wantFlags {
		t.Fatalf("Flags(%#x) = %d, want %d", w, got, wantFlags)
	}
	if got := psw.Trace(w); got != wantTrace {
		t.Fatalf("Trace(%#x) = %v, want %v", w, got, wantTrace)
	}
}

func TestFields(t *testing.T) {
	for _, w := range integers() {
		priority := 4*bit(w, 7) + 2*bit(w, 6) + bit(w, 5)
		flags := 8*bit(w, codeN) + 4*bit(w, codeZ) + 2*bit(w, codeV) + bit(w, codeC)
		checkFields(t, w, bit(w, current), bit(w, previous), priority, flags, bit(w, trace) == 1)
	}
}

// P4.2

// formCase is a call of a function that forms a word from two.
type formCase struct{ w, other, want int }

func checkCases(t *testing.T, name string, form func(w, other int) int, cases []formCase) {
	t.Helper()
	for _, k := range cases {
		if got := form(k.w, k.other); got != k.want {
			t.Errorf("%s(%#x, %#x) = %#x, want %#x", name, k.w, k.other, got, k.want)
		}
	}
}

// checkForms compares with the word whose bit i is that of the integer source(w, other, i).
func checkForms(t *testing.T, name string, form func(w, other int) int, source func(w, other, i int) int) {
	t.Helper()
	for _, w := range samples() {
		for _, other := range samples() {
			want := build(func(i int) int { return source(w, other, i) })
			if got := form(w, other); got != want {
				t.Fatalf("%s(%#x, %#x) = %#x, want %#x", name, w, other, got, want)
			}
		}
	}
}

func TestWithFlagsCases(t *testing.T) {
	checkCases(t, "WithFlags", psw.WithFlags, []formCase{
		{0, 0, 0}, {0, 15, 15}, {15, 0, 0}, {0xC0FF, 0, 0xC0F0}, {0xC0F0, 9, 0xC0F9}, {0x8015, 10, 0x801A}, {0x40EF, 5, 0x40E5}, {5, 5, 5},
		{0, 16, 0}, {15, 16, 0}, {0, 0xC0F3, 3}, {0x10, 0xFFE1, 0x11}, // only four bits of the flags
		{0x3F00, 1, 1}, {0xFFFF, 2, 0xC0F2}, {0x3F07, 0x3F00, 0}, // bits that do not exist
		{-1, 0, 0xC0F0}, {-1, -1, 0xC0FF}, {0, -1, 15}, {0, -16, 0}, {0, -15, 1}, {65536, 65536 + 4, 4}, {65536 + 0x8000, 65536, 0x8000}, {math.MinInt, math.MaxInt, 15}, {math.MaxInt, math.MinInt, 0xC0F0},
	})
}

func TestWithFlags(t *testing.T) {
	checkForms(t, "WithFlags", psw.WithFlags, func(w, flags, i int) int {
		if i <= codeN {
			return flags
		}
		return w
	})
}

func TestEnterCases(t *testing.T) {
	checkCases(t, "Enter", psw.Enter, []formCase{
		{0xC00F, 0xE0, 0x40E0}, // an example
		{0, 0x8000, 0x8000}, {0x8000, 0x8000, 0xC000}, {0, 0xC0FF, 0x80FF}, {0xC0FF, 0xC0FF, 0xC0FF}, {0xC0FF, 0, 0x4000}, {0x00FF, 0, 0}, {0x80FF, 0x13, 0x4013}, {0, 0x00FF, 0xFF},
		{0, 0, 0}, {0x8000, 0, 0x4000}, {0x4000, 0, 0}, {0xC000, 0, 0x4000}, {0x4000, 0x4000, 0}, {0x8000, 0x4000, 0x4000}, // the previous mode of neither counts
		{0, 0x3F00, 0}, {0x3F00, 0, 0}, {0xFFFF, 0xFFFF, 0xC0FF}, {0xBF00, 0x3FE0, 0x40E0}, // bits that do not exist
		{-1, -1, 0xC0FF}, {-1, 0, 0x4000}, {0, -1, 0x80FF}, {-32768, 65536 + 0xE0, 0x40E0}, {65536 + 0x8000, 65536, 0x4000}, {65536, 0, 0}, {-65536, -65536, 0}, {math.MaxInt, math.MinInt, 0x4000}, {math.MinInt, math.MaxInt, 0x80FF},
	})
}

func TestEnter(t *testing.T) {
	checkForms(t, "Enter", psw.Enter, func(w, vector, i int) int {
		if i == previous {
			return bit(w, current) * 16384
		}
		return vector
	})
}

func TestReturnCases(t *testing.T) {
	checkCases(t, "Return", psw.Return, []formCase{
		{0xC000, 0x00FF, 0xC01F}, {0, 0xFFFF, 0xC0FF}, // examples
		{0, 0, 0}, {0x40FF, 0, 0}, {0x4000, 0xC0FF, 0xC0FF}, {0x00E0, 0x8000, 0x8000}, {0x00E0, 0x4000, 0x4000}, {0x7FFF, 0x0025, 0x0025}, // kernel mode: the word popped
		{0x8000, 0, 0x8000}, {0x8000, 0xC0FF, 0x801F}, {0x80FF, 0, 0x80E0}, {0xC0FF, 0, 0xC0E0}, {0x80E0, 0x4005, 0x80E5}, {0x80A5, 0x001A, 0x80BA}, {0x801F, 0x00E0, 0x8000}, {0xC01F, 0x8010, 0xC010}, // user mode: its codes and trace bit
		{0, 0x3F00, 0}, {0x3F00, 0x3F01, 1}, {0xBF00, 0x3F00, 0x8000}, {0xFFFF, 0xFFFF, 0xC0FF}, {0x8000, 0x3F00, 0x8000}, // bits that do not exist
		{-1, 0, 0xC0E0}, {-1, -1, 0xC0FF}, {0, -1, 0xC0FF}, {-32768, -1, 0x801F}, {65536, 65536 + 0xC0, 0xC0}, {65536 + 0x8000, 65536 + 0xFF, 0x801F}, {-65536, -65536, 0}, {math.MaxInt, math.MinInt, 0xC0E0}, {math.MinInt, math.MaxInt, 0xC0FF},
	})
}

func TestReturn(t *testing.T) {
	checkForms(t, "Return", psw.Return, func(w, popped, i int) int {
		if bit(w, current) == 0 || i <= trace {
			return popped
		}
		return w
	})
}

// P4.3

func TestTextCases(t *testing.T) {
	for _, k := range []struct {
		w    int
		want string
	}{
		{0, "kk0-----"}, {0xC0F5, "uu7T-Z-C"}, // examples
		{0x8000, "uk0-----"}, {0x4000, "ku0-----"}, {0xC000, "uu0-----"}, {0x20, "kk1-----"}, {0x40, "kk2-----"}, {0x80, "kk4-----"}, {0xE0, "kk7-----"},
		{0x10, "kk0T----"}, {8, "kk0-N---"}, {4, "kk0--Z--"}, {2, "kk0---V-"}, {1, "kk0----C"}, {0x1F, "kk0TNZVC"}, {0xC0FF, "uu7TNZVC"}, {0x40AA, "ku5-N-V-"},
		{0x3F00, "kk0-----"}, {0x100, "kk0-----"}, {0xFFFF, "uu7TNZVC"}, {0xBF6A, "uk3-N-V-"}, // bits that do not exist
		{-1, "uu7TNZVC"}, {-32768, "uk0-----"}, {65536, "kk0-----"}, {65536 + 0x40D1, "ku6T---C"}, {-65536, "kk0-----"}, {-65535, "kk0----C"}, {math.MaxInt, "uu7TNZVC"}, {math.MinInt, "kk0-----"},
	} {
		if got := psw.Text(k.w); got != k.want {
			t.Errorf("Text(%#x) = %q, want %q", k.w, got, k.want)
		}
	}
}

func TestText(t *testing.T) {
	marks := func(w, i int, letters string) string { return letters[bit(w, i):][:1] }
	for _, w := range integers() {
		priority := "01234567"[4*bit(w, 7)+2*bit(w, 6)+bit(w, 5):][:1]
		want := marks(w, current, "ku") + marks(w, previous, "ku") + priority + marks(w, trace, "-T") + marks(w, codeN, "-N") + marks(w, codeZ, "-Z") + marks(w, codeV, "-V") + marks(w, codeC, "-C")
		if got := psw.Text(w); got != want {
			t.Fatalf("Text(%#x) = %q, want %q", w, got, want)
		}
	}
}

// P4.4

func TestFormedWordsAreValid(t *testing.T) {
	for _, a := range samples() {
		for _, b := range samples() {
			for _, w := range []int{psw.WithFlags(a, b), psw.Enter(a, b), psw.Return(a, b)} {
				if !psw.Valid(w) {
					t.Fatalf("%#x and %#x give the word %#x, which is not valid", a, b, w)
				}
			}
		}
	}
}

func TestReturnInUserModeKeepsModesAndPriority(t *testing.T) {
	for _, w := range samples() {
		if psw.Mode(w) == 0 {
			continue
		}
		for _, popped := range samples() {
			r := psw.Return(w, popped)
			if psw.Mode(r) != psw.Mode(w) || psw.Previous(r) != psw.Previous(w) || psw.Priority(r) != psw.Priority(w) {
				t.Fatalf("Return(%#x, %#x) = %#x", w, popped, r)
			}
		}
	}
}

func TestTextsTellValidWordsApart(t *testing.T) {
	seen := map[string]int{}
	for w := range 65536 {
		if !psw.Valid(w) {
			continue
		}
		text := psw.Text(w)
		if other, found := seen[text]; found {
			t.Fatalf("%#x and %#x have the text %q", other, w, text)
		}
		seen[text] = w
	}
	if len(seen) != 1024 {
		t.Errorf("%d words are valid, want 1024", len(seen))
	}
}
