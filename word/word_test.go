package word_test

import (
	"math"
	"testing"

	"emulator/word"
)

// The condition codes as a number.
const (
	c = 1
	v = 2
	z = 4
	n = 8
)

// edges has the words at which signs, carries and bytes change.
var edges = []int{0, 1, 2, 3, 7, 127, 128, 129, 181, 182, 254, 255, 256, 257, 384, 16383, 16384, 16385, 21845, 32766, 32767, 32768, 32769, 43690, 49151, 49152, 65279, 65280, 65407, 65408, 65533, 65534, 65535}

// wild has integers that are neither words nor bytes.
var wild = []int{-1, -2, -128, -129, -255, -256, -32768, -32769, -65535, -65536, -65537, 65536, 65537, 98304, 1<<31 - 1, 1 << 31, -1 << 31, 1<<40 + 5, math.MaxInt - 1, math.MaxInt, math.MinInt, math.MinInt + 1}

// modulo returns the remainder from 0 to m - 1, written with division so that it shares nothing with a mask.
func modulo(k, m int) int {
	r := k % m
	if r < 0 {
		r += m
	}
	return r
}

// size returns 2 to the power of the width.
func size(byte bool) int {
	if byte {
		return 256
	}
	return 65536
}

// value returns the signed value of an operand.
func value(w int, byte bool) int {
	w = modulo(w, size(byte))
	if w < size(byte)/2 {
		return w
	}
	return w - size(byte)
}

// sign returns the highest bit of an operand.
func sign(w int, byte bool) int {
	return modulo(w, size(byte)) / (size(byte) / 2)
}

// codes returns the condition codes as a number.
func codes(negative, zero, overflow, carry bool) int {
	return mark(negative, n) + mark(zero, z) + mark(overflow, v) + mark(carry, c)
}

func mark(set bool, code int) int {
	if set {
		return code
	}
	return 0
}

// operands returns all bytes, or the edges among the words.
func operands(byte bool) []int {
	if !byte {
		return edges
	}
	var l []int
	for b := range 256 {
		l = append(l, b)
	}
	return l
}

// P1.1

func TestWrap(t *testing.T) {
	for _, k := range []struct{ n, want int }{
		{0, 0}, {1, 1}, {32768, 32768}, {65535, 65535},
		{65536, 0}, {65537, 1}, {131071, 65535}, {1<<40 + 7, 7}, {math.MaxInt, 65535},
		{-1, 65535}, {-32768, 32768}, {-65535, 1}, {-65536, 0}, {-65537, 65535}, {math.MinInt, 0}, {math.MinInt + 1, 1},
	} {
		if got := word.Wrap(k.n); got != k.want {
			t.Errorf("Wrap(%d) = %d, want %d", k.n, got, k.want)
		}
	}
	for k := -70000; k <= 140000; k++ {
		if got := word.Wrap(k); got != modulo(k, 65536) {
			t.Fatalf("Wrap(%d) = %d, want %d", k, got, modulo(k, 65536))
		}
	}
}

func TestSigned(t *testing.T) {
	for _, k := range []struct{ w, want int }{
		{0, 0}, {1, 1}, {127, 127}, {128, 128}, {255, 255}, {32767, 32767}, {32768, -32768}, {32769, -32767}, {65535, -1},
		{65536, 0}, {98304, -32768}, {131071, -1}, {-1, -1}, {-32768, -32768}, {-32769, 32767}, {-65536, 0},
		{math.MaxInt, -1}, {math.MinInt, 0}, {math.MinInt + 32768, -32768},
	} {
		if got := word.Signed(k.w); got != k.want {
			t.Errorf("Signed(%d) = %d, want %d", k.w, got, k.want)
		}
	}
	for w := range 65536 {
		if got := word.Signed(w); got != value(w, false) {
			t.Fatalf("Signed(%d) = %d, want %d", w, got, value(w, false))
		}
	}
}

func TestExtend(t *testing.T) {
	for _, k := range []struct{ b, want int }{
		{0, 0}, {1, 1}, {127, 127}, {128, 65408}, {129, 65409}, {255, 65535},
		{256, 0}, {383, 127}, {384, 65408}, {65535, 65535}, {65536, 0}, {32768, 0},
		{-1, 65535}, {-128, 65408}, {-129, 127}, {-256, 0}, {math.MaxInt, 65535}, {math.MinInt, 0},
	} {
		if got := word.Extend(k.b); got != k.want {
			t.Errorf("Extend(%d) = %d, want %d", k.b, got, k.want)
		}
	}
	for b := range 256 {
		if got := word.Extend(b); value(got, false) != value(b, true) || got < 0 || got > 65535 {
			t.Errorf("Extend(%d) = %d", b, got)
		}
	}
}

func TestFlags(t *testing.T) {
	for _, k := range []struct {
		w    int
		byte bool
		want int
	}{
		{0, false, z}, {1, false, 0}, {128, false, 0}, {32767, false, 0}, {32768, false, n}, {65535, false, n},
		{65536, false, z}, {98304, false, n}, {-1, false, n}, {-65536, false, z}, {-32769, false, 0}, {math.MinInt, false, z}, {math.MaxInt, false, n},
		{0, true, z}, {1, true, 0}, {127, true, 0}, {128, true, n}, {255, true, n},
		{256, true, z}, {384, true, n}, {32768, true, z}, {65407, true, 0}, {-1, true, n}, {-256, true, z}, {-129, true, 0}, {math.MinInt, true, z},
	} {
		if got := word.Flags(k.w, k.byte); got != k.want {
			t.Errorf("Flags(%d, %v) = %d, want %d", k.w, k.byte, got, k.want)
		}
	}
	for w := range 65536 {
		for _, byte := range []bool{false, true} {
			want := codes(sign(w, byte) == 1, modulo(w, size(byte)) == 0, false, false)
			if got := word.Flags(w, byte); got != want {
				t.Fatalf("Flags(%d, %v) = %d, want %d", w, byte, got, want)
			}
		}
	}
}

// P1.2

type sumCase struct {
	a, b, carry int
	byte        bool
	want, codes int
}

func TestAddCases(t *testing.T) {
	for _, k := range []sumCase{
		{32767, 1, 0, false, 32768, n + v}, {65535, 0, 1, false, 0, z + c}, // examples
		{0, 0, 0, false, 0, z}, {1, 2, 0, false, 3, 0}, {1, 2, 1, false, 4, 0}, {32767, 0, 1, false, 32768, n + v},
		{32768, 32768, 0, false, 0, z + v + c}, {32768, 65535, 0, false, 32767, v + c}, {65535, 65535, 0, false, 65534, n + c}, {65535, 65535, 1, false, 65535, n + c},
		{32767, 32767, 1, false, 65535, n + v}, {32767, 32768, 0, false, 65535, n}, {32767, 32768, 1, false, 0, z + c},
		{127, 1, 0, true, 128, n + v}, {255, 0, 1, true, 0, z + c}, {128, 128, 0, true, 0, z + v + c}, {127, 1, 0, false, 128, 0}, {255, 1, 0, false, 256, 0},
		{127, 255, 0, true, 126, c}, {256, 511, 0, true, 255, n}, {-1, 65536, 2, false, 65535, n}, {-1, -1, -1, true, 255, n + c}, {math.MaxInt, math.MaxInt, 0, false, 65534, n + c}, {math.MinInt, math.MinInt, math.MaxInt, false, 1, 0},
	} {
		if got, f := word.Add(k.a, k.b, k.carry, k.byte); got != k.want || f != k.codes {
			t.Errorf("Add(%d, %d, %d, %v) = %d, %d, want %d, %d", k.a, k.b, k.carry, k.byte, got, f, k.want, k.codes)
		}
	}
}

func TestSubCases(t *testing.T) {
	for _, k := range []sumCase{
		{0, 1, 0, true, 255, n + c}, {128, 1, 0, true, 127, v}, // examples
		{0, 0, 0, false, 0, z}, {3, 2, 0, false, 1, 0}, {3, 2, 1, false, 0, z}, {3, 3, 1, false, 65535, n + c}, {0, 65535, 1, false, 0, z + c},
		{32768, 1, 0, false, 32767, v}, {32768, 0, 1, false, 32767, v}, {32767, 65535, 0, false, 32768, n + v + c}, {0, 32768, 0, false, 32768, n + v + c}, {0, 32768, 1, false, 32767, c},
		{0, 1, 0, false, 65535, n + c}, {65535, 65535, 0, false, 0, z}, {65535, 0, 1, false, 65534, n},
		{127, 255, 0, true, 128, n + v + c}, {0, 128, 0, true, 128, n + v + c}, {255, 255, 1, true, 255, n + c}, {128, 1, 0, false, 127, 0},
		{256, 511, 0, true, 1, c}, {-1, 65536, 2, false, 65535, n}, {65536, 0, 3, false, 65535, n + c}, {-1, -1, -1, true, 255, n + c}, {math.MinInt, math.MaxInt, 0, false, 1, c}, {math.MaxInt, math.MinInt, 1, false, 65534, n},
	} {
		if got, f := word.Sub(k.a, k.b, k.carry, k.byte); got != k.want || f != k.codes {
			t.Errorf("Sub(%d, %d, %d, %v) = %d, %d, want %d, %d", k.a, k.b, k.carry, k.byte, got, f, k.want, k.codes)
		}
	}
}

// TestSums compares with the document's words for all bytes and for the edges among the words, V also with the range of the signed result.
func TestSums(t *testing.T) {
	for _, byte := range []bool{false, true} {
		for _, a := range operands(byte) {
			for _, b := range operands(byte) {
				for carry := range 2 {
					checkAdd(t, a, b, carry, byte)
					checkSub(t, a, b, carry, byte)
				}
			}
		}
	}
}

func checkAdd(t *testing.T, a, b, carry int, byte bool) {
	t.Helper()
	m := size(byte)
	want := modulo(a+b+carry, m)
	over := sign(a, byte) == sign(b, byte) && sign(want, byte) != sign(a, byte)
	if exact := value(a, byte) + value(b, byte) + carry; over != (exact < -m/2 || exact >= m/2) {
		t.Fatalf("V of %d + %d + %d, %v", a, b, carry, byte)
	}
	f := codes(sign(want, byte) == 1, want == 0, over, a+b+carry >= m)
	if got, g := word.Add(a, b, carry, byte); got != want || g != f {
		t.Fatalf("Add(%d, %d, %d, %v) = %d, %d, want %d, %d", a, b, carry, byte, got, g, want, f)
	}
}

func checkSub(t *testing.T, a, b, borrow int, byte bool) {
	t.Helper()
	m := size(byte)
	want := modulo(a-b-borrow, m)
	over := sign(a, byte) != sign(b, byte) && sign(want, byte) == sign(b, byte)
	if exact := value(a, byte) - value(b, byte) - borrow; over != (exact < -m/2 || exact >= m/2) {
		t.Fatalf("V of %d - %d - %d, %v", a, b, borrow, byte)
	}
	f := codes(sign(want, byte) == 1, want == 0, over, a < b+borrow)
	if got, g := word.Sub(a, b, borrow, byte); got != want || g != f {
		t.Fatalf("Sub(%d, %d, %d, %v) = %d, %d, want %d, %d", a, b, borrow, byte, got, g, want, f)
	}
}

func TestSumsOfWildOperands(t *testing.T) {
	all := append(append([]int{}, edges...), wild...)
	for _, byte := range []bool{false, true} {
		m := size(byte)
		for _, a := range all {
			for _, b := range all {
				for _, carry := range []int{0, 1, 2, 3, -1, -2, math.MaxInt, math.MinInt} {
					checkReduced(t, "Add", word.Add, a, b, carry, m)
					checkReduced(t, "Sub", word.Sub, a, b, carry, m)
				}
			}
		}
	}
}

func checkReduced(t *testing.T, name string, sum func(a, b, carry int, byte bool) (int, int), a, b, carry, m int) {
	t.Helper()
	got, f := sum(a, b, carry, m == 256)
	want, g := sum(modulo(a, m), modulo(b, m), modulo(carry, 2), m == 256)
	if got != want || f != g {
		t.Fatalf("%s(%d, %d, %d) modulo %d = %d, %d, want %d, %d", name, a, b, carry, m, got, f, want, g)
	}
}

// P1.3

func TestMulCases(t *testing.T) {
	for _, k := range []struct{ a, b, high, low, codes int }{
		{65535, 2, 65535, 65534, n}, {256, 256, 1, 0, c}, // examples
		{0, 0, 0, 0, z}, {0, 65535, 0, 0, z}, {3, 5, 0, 15, 0}, {65535, 65535, 0, 1, 0}, {1, 65535, 65535, 65535, n},
		{32767, 1, 0, 32767, 0}, {16384, 2, 0, 32768, c}, {32768, 65535, 0, 32768, c}, {32768, 1, 65535, 32768, n}, {49152, 2, 65535, 32768, n}, {65533, 10923, 65535, 32767, n + c},
		{32768, 32768, 16384, 0, c}, {32767, 32767, 16383, 1, c}, {32768, 32767, 49152, 32768, n + c}, {32768, 2, 65535, 0, n + c}, {256, 128, 0, 32768, c},
		{65536, 5, 0, 0, z}, {-1, 2, 65535, 65534, n}, {65537, -65537, 65535, 65535, n}, {math.MaxInt, math.MaxInt, 0, 1, 0}, {math.MinInt, math.MaxInt, 0, 0, z},
	} {
		if high, low, f := word.Mul(k.a, k.b); high != k.high || low != k.low || f != k.codes {
			t.Errorf("Mul(%d, %d) = %d, %d, %d, want %d, %d, %d", k.a, k.b, high, low, f, k.high, k.low, k.codes)
		}
	}
}

func TestMul(t *testing.T) {
	all := append(append([]int{}, edges...), wild...)
	for _, a := range all {
		for _, b := range all {
			product := value(a, false) * value(b, false)
			f := codes(product < 0, product == 0, false, product < -32768 || product > 32767)
			high, low, g := word.Mul(a, b)
			if value(high, false)*65536+low != product || high != modulo(high, 65536) || low != modulo(low, 65536) || f != g {
				t.Fatalf("Mul(%d, %d) = %d, %d, %d; the product is %d, the condition codes %d", a, b, high, low, g, product, f)
			}
		}
	}
}

// P1.4

func TestDivCases(t *testing.T) {
	for _, k := range []struct {
		high, low, d, quotient, rest, codes int
		ok                                  bool
	}{
		{0, 7, 65534, 65533, 1, n, true}, {0, 5, 0, 0, 0, v + c, false}, {1, 0, 1, 0, 0, v, false}, // examples
		{0, 7, 2, 3, 1, 0, true}, {65535, 65529, 2, 65533, 65535, n, true}, {65535, 65529, 65534, 3, 65535, 0, true}, {0, 0, 5, 0, 0, z, true}, {0, 3, 5, 0, 3, z, true}, {65535, 65533, 5, 0, 65533, z, true}, {0, 3, 65531, 0, 3, z, true},
		{0, 32767, 1, 32767, 0, 0, true}, {0, 32768, 1, 0, 0, v, false}, {0, 32768, 65535, 32768, 0, n, true}, {0, 32769, 65535, 0, 0, v, false}, {65535, 32768, 1, 32768, 0, n, true}, {65535, 32767, 1, 0, 0, v, false}, {65535, 32768, 65535, 0, 0, v, false}, {65535, 32769, 65535, 32767, 0, 0, true},
		{0, 65535, 2, 32767, 1, 0, true}, {1, 0, 2, 0, 0, v, false}, {65535, 0, 2, 32768, 0, n, true}, {65534, 65535, 2, 32768, 65535, n, true}, {65534, 65534, 2, 0, 0, v, false}, {1, 1, 65534, 32768, 1, n, true}, {1, 2, 65534, 0, 0, v, false},
		{32768, 0, 65535, 0, 0, v, false}, {32768, 0, 32768, 0, 0, v, false}, {32767, 65535, 32767, 0, 0, v, false}, {16384, 0, 32768, 32768, 0, n, true}, {49152, 0, 32767, 0, 0, v, false}, {49152, 32768, 32768, 32767, 0, 0, true}, {32768, 0, 0, 0, 0, v + c, false}, {0, 0, 0, 0, 0, v + c, false},
		{65536, 65543, -2, 65533, 1, n, true}, {-1, -7, 65538, 65533, 65535, n, true}, {5, 5, 65536, 0, 0, v + c, false}, {math.MinInt, math.MaxInt, math.MinInt, 0, 0, v + c, false}, {math.MaxInt, math.MaxInt, math.MaxInt, 1, 0, 0, true},
	} {
		if q, r, f, ok := word.Div(k.high, k.low, k.d); q != k.quotient || r != k.rest || f != k.codes || ok != k.ok {
			t.Errorf("Div(%d, %d, %d) = %d, %d, %d, %v, want %d, %d, %d, %v", k.high, k.low, k.d, q, r, f, ok, k.quotient, k.rest, k.codes, k.ok)
		}
	}
}

func TestDiv(t *testing.T) {
	all := append(append([]int{}, edges...), wild...)
	for _, high := range all {
		for _, low := range all {
			for _, d := range all {
				checkDiv(t, high, low, d)
			}
		}
	}
}

// checkDiv takes the quotient of the absolute values, so that rounding toward 0 does not rest on the division of negative numbers.
func checkDiv(t *testing.T, high, low, d int) {
	t.Helper()
	q, r, f, ok := word.Div(high, low, d)
	dividend, divisor := 65536*value(high, false)+modulo(low, 65536), value(d, false)
	if divisor == 0 {
		if q != 0 || r != 0 || f != v+c || ok {
			t.Fatalf("Div(%d, %d, %d) = %d, %d, %d, %v", high, low, d, q, r, f, ok)
		}
		return
	}
	quotient := max(dividend, -dividend) / max(divisor, -divisor)
	if (dividend < 0) != (divisor < 0) {
		quotient = -quotient
	}
	if quotient < -32768 || quotient > 32767 {
		if q != 0 || r != 0 || f != v || ok {
			t.Fatalf("Div(%d, %d, %d) = %d, %d, %d, %v", high, low, d, q, r, f, ok)
		}
		return
	}
	rest := dividend - quotient*divisor
	g := codes(quotient < 0, quotient == 0, false, false)
	if q != modulo(quotient, 65536) || r != modulo(rest, 65536) || f != g || !ok {
		t.Fatalf("Div(%d, %d, %d) = %d, %d, %d, %v, want %d, %d, %d, true", high, low, d, q, r, f, ok, modulo(quotient, 65536), modulo(rest, 65536), g)
	}
}

// P1.5

func TestShiftCases(t *testing.T) {
	for _, k := range []struct{ w, n, want, codes int }{
		{16384, 1, 32768, n + v}, {32769, 1, 2, v + c}, {32769, -1, 49152, n + c}, {1, 64, 1, 0}, // examples
		{0, 0, 0, z}, {65535, 0, 65535, n}, {0, 31, 0, z}, {0, -32, 0, z},
		{1, 1, 2, 0}, {1, 14, 16384, 0}, {1, 15, 32768, n + v}, {1, 16, 0, z + v + c}, {1, 17, 0, z + v}, {1, 31, 0, z + v},
		{49152, 1, 32768, n + c}, {49152, 2, 0, z + v + c}, {65535, 15, 32768, n + c}, {65535, 16, 0, z + v + c}, {65535, 17, 0, z + v},
		{16384, 2, 0, z + v + c}, {40960, 2, 32768, n + v}, {24576, 2, 32768, n + v + c}, {20480, 2, 16384, v + c}, {32768, 1, 0, z + v + c},
		{3, -1, 1, c}, {2, -1, 1, 0}, {1, -1, 0, z + c}, {1, -2, 0, z}, {32768, -1, 49152, n}, {32768, -15, 65535, n}, {32768, -16, 65535, n + c}, {32768, -32, 65535, n + c}, {32767, -15, 0, z + c}, {32767, -16, 0, z}, {32767, -32, 0, z}, {65534, -1, 65535, n},
		{1, 32, 0, z}, {32768, 32, 65535, n + c}, {4, 63, 2, 0}, {5, 63, 2, c}, {1, 65, 2, 0}, {4, -65, 2, 0}, {4, -63, 8, 0}, {1, -33, 0, z + v}, {4, -64, 4, 0}, {1, math.MaxInt, 0, z + c}, {1, math.MinInt, 1, 0}, {1, math.MinInt + 1, 2, 0},
		{65537, 1, 2, 0}, {-1, 1, 65534, n + c}, {-1, -1, 65535, n + c}, {-65535, 1, 2, 0}, {math.MaxInt, 0, 65535, n}, {math.MinInt, 5, 0, z},
	} {
		if got, f := word.Shift(k.w, k.n); got != k.want || f != k.codes {
			t.Errorf("Shift(%d, %d) = %d, %d, want %d, %d", k.w, k.n, got, f, k.want, k.codes)
		}
	}
}

func TestShift(t *testing.T) {
	all := append(append([]int{}, edges...), wild...)
	for w := 0; w < 65536; w += 251 {
		all = append(all, w)
	}
	for _, w := range all {
		for count := -200; count <= 200; count++ {
			want, f := moves(modulo(w, 65536), count)
			if got, g := word.Shift(w, count); got != want || g != f {
				t.Fatalf("Shift(%d, %d) = %d, %d, want %d, %d", w, count, got, g, want, f)
			}
		}
	}
}

// moves shifts a word one bit after the other, as the document tells it.
func moves(w, count int) (int, int) {
	count = modulo(count, 64)
	if count > 31 {
		count -= 64
	}
	r, out, over := w, 0, false
	for ; count > 0; count-- {
		out, r = r/32768, r%32768*2
		over = over || sign(r, false) != sign(w, false)
	}
	for ; count < 0; count++ {
		out, r = r%2, r/2+r/32768*32768
	}
	return r, codes(sign(r, false) == 1, r == 0, over, out == 1)
}

// P1.6

func TestRotateCases(t *testing.T) {
	for _, k := range []struct {
		w, carry   int
		left, byte bool
		want       int
		codes      int
	}{
		{1, 1, false, false, 32768, n + c}, {128, 0, true, true, 0, z + v + c}, // examples
		{0, 0, true, false, 0, z}, {0, 1, true, false, 1, 0}, {32768, 0, true, false, 0, z + v + c}, {32768, 1, true, false, 1, v + c}, {16384, 0, true, false, 32768, n + v}, {65535, 0, true, false, 65534, n + c}, {65535, 1, true, false, 65535, n + c}, {128, 0, true, false, 256, 0},
		{0, 0, false, false, 0, z}, {0, 1, false, false, 32768, n + v}, {1, 0, false, false, 0, z + v + c}, {65535, 0, false, false, 32767, v + c}, {65535, 1, false, false, 65535, n + c}, {256, 0, false, false, 128, 0},
		{0, 1, true, true, 1, 0}, {64, 0, true, true, 128, n + v}, {255, 1, true, true, 255, n + c}, {127, 1, true, true, 255, n + v},
		{0, 1, false, true, 128, n + v}, {1, 0, false, true, 0, z + v + c}, {1, 1, false, true, 128, n + c}, {255, 0, false, true, 127, v + c}, {2, 1, false, true, 129, n + v}, {128, 0, false, true, 64, 0},
		{65537, 3, false, false, 32768, n + c}, {65536, 2, true, false, 0, z}, {-1, -1, true, false, 65535, n + c}, {-1, -2, true, false, 65534, n + c}, {-1, 0, false, false, 32767, v + c},
		{256, 0, false, true, 0, z}, {257, 1, false, true, 128, n + c}, {384, 2, true, true, 0, z + v + c}, {-256, 0, true, true, 0, z}, {math.MaxInt, math.MinInt, false, true, 127, v + c}, {math.MinInt, math.MaxInt, true, false, 1, 0},
	} {
		if got, f := word.Rotate(k.w, k.carry, k.left, k.byte); got != k.want || f != k.codes {
			t.Errorf("Rotate(%d, %d, %v, %v) = %d, %d, want %d, %d", k.w, k.carry, k.left, k.byte, got, f, k.want, k.codes)
		}
	}
}

func TestRotate(t *testing.T) {
	for _, byte := range []bool{false, true} {
		for w := range size(byte) {
			for carry := range 2 {
				checkRotate(t, w, carry, byte)
			}
		}
		for _, w := range wild {
			for _, carry := range wild {
				checkRotate(t, w, carry, byte)
			}
		}
	}
}

func checkRotate(t *testing.T, w, carry int, byte bool) {
	t.Helper()
	m := size(byte)
	operand, in := modulo(w, m), modulo(carry, 2)
	for _, left := range []bool{false, true} {
		want, out := operand/2+in*m/2, operand%2
		if left {
			want, out = modulo(2*operand+in, m), operand/(m/2)
		}
		f := codes(sign(want, byte) == 1, want == 0, sign(want, byte) != out, out == 1)
		if got, g := word.Rotate(w, carry, left, byte); got != want || g != f {
			t.Fatalf("Rotate(%d, %d, %v, %v) = %d, %d, want %d, %d", w, carry, left, byte, got, g, want, f)
		}
	}
}

// P1.7

func TestSubUndoesAdd(t *testing.T) {
	for _, byte := range []bool{false, true} {
		for _, a := range operands(byte) {
			for _, b := range operands(byte) {
				sum, _ := word.Add(a, b, 0, byte)
				if got, _ := word.Sub(sum, b, 0, byte); got != modulo(a, size(byte)) {
					t.Fatalf("%d + %d - %d = %d, %v", a, b, b, got, byte)
				}
			}
		}
	}
}

func TestDivUndoesMul(t *testing.T) {
	for _, a := range edges {
		for _, b := range edges {
			high, low, _ := word.Mul(a, b)
			q, r, f, ok := word.Div(high, low, b)
			if b == 0 && (ok || f != v+c) || b != 0 && (q != a || r != 0 || f != word.Flags(a, false) || !ok) {
				t.Fatalf("%d * %d / %d = %d, %d, %d, %v", a, b, b, q, r, f, ok)
			}
		}
	}
}

func TestRemainder(t *testing.T) {
	for _, high := range edges {
		for _, low := range edges {
			for _, d := range edges {
				q, r, _, ok := word.Div(high, low, d)
				if !ok {
					continue
				}
				dividend, divisor, rest := 65536*value(high, false)+low, value(d, false), value(r, false)
				if value(q, false)*divisor+rest != dividend || rest != 0 && (rest < 0) != (dividend < 0) || max(rest, -rest) >= max(divisor, -divisor) {
					t.Fatalf("Div(%d, %d, %d) = %d, %d", high, low, d, q, r)
				}
			}
		}
	}
}

func TestRotateBack(t *testing.T) {
	for _, byte := range []bool{false, true} {
		for w := range size(byte) {
			for carry := range 2 {
				r, f := word.Rotate(w, carry, true, byte)
				if back, g := word.Rotate(r, f&c, false, byte); back != w || g&c != carry {
					t.Fatalf("%d with the carry %d became %d with %d, %v", w, carry, back, g&c, byte)
				}
			}
		}
	}
}
