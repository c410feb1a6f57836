// Package word: arithmetic of words and bytes (layer 1; shared/doc/01-word.md).
package word

// The condition codes as bits of a number.
const (
	codeC = 1
	codeV = 2
	codeZ = 4
	codeN = 8
)

// width has the bits that operands of one width are made of.
type width struct {
	mask int // all bits
	sign int // the highest bit
}

// widths has the width of words, then that of bytes.
var widths = [2]width{
	{mask: 0xFFFF, sign: 0x8000},
	{mask: 0xFF, sign: 0x80},
}

func widthOf(byte bool) width {
	if byte {
		return widths[1]
	}
	return widths[0]
}

// signed returns the signed value of an operand: turning the sign and subtracting it moves the upper half below 0.
func (k width) signed(n int) int {
	return (n&k.mask ^ k.sign) - k.sign
}

func (k width) negative(n int) bool {
	return n&k.sign != 0
}

func (k width) flags(n int) int {
	return when(codeN, k.negative(n)) | when(codeZ, n&k.mask == 0)
}

func when(code int, set bool) int {
	if set {
		return code
	}
	return 0
}

// Wrap returns the word with the value n modulo 2^16.
func Wrap(n int) int {
	return n & widths[0].mask
}

// Signed returns the signed value of a word.
func Signed(w int) int {
	return widths[0].signed(w)
}

// Extend returns the word that a byte becomes by sign extension.
func Extend(b int) int {
	return Wrap(widths[1].signed(b))
}

// Flags returns the condition codes N and Z of a result.
func Flags(w int, byte bool) int {
	return widthOf(byte).flags(w)
}

// Add returns the sum of two operands and a carry, and its condition codes.
func Add(a, b, carry int, byte bool) (int, int) {
	k := widthOf(byte)
	a, b = a&k.mask, b&k.mask
	sum := a + b + carry&1
	r := sum & k.mask
	over := k.negative(a) == k.negative(b) && k.negative(r) != k.negative(a)
	return r, k.flags(r) | when(codeV, over) | when(codeC, sum > k.mask)
}

// Sub returns the difference of two operands and a borrow, and its condition codes.
func Sub(a, b, borrow int, byte bool) (int, int) {
	k := widthOf(byte)
	a, b = a&k.mask, b&k.mask
	difference := a - b - borrow&1
	r := difference & k.mask
	over := k.negative(a) != k.negative(b) && k.negative(r) == k.negative(b)
	return r, k.flags(r) | when(codeV, over) | when(codeC, difference < 0)
}

// Mul returns the two words of a signed product, and its condition codes.
func Mul(a, b int) (int, int, int) {
	product := Signed(a) * Signed(b)
	codes := when(codeN, product < 0) | when(codeZ, product == 0) | when(codeC, !fits(product))
	return Wrap(product >> 16), Wrap(product), codes
}

// fits reports whether n is the signed value of a word.
func fits(n int) bool {
	return n == Signed(n)
}

// Div returns the signed quotient and remainder of a double word, and the condition codes.
func Div(high, low, d int) (int, int, int, bool) {
	divisor := Signed(d)
	if divisor == 0 {
		return 0, 0, codeV | codeC, false
	}
	dividend := Signed(high)<<16 + Wrap(low)
	quotient := dividend / divisor
	if !fits(quotient) {
		return 0, 0, codeV, false
	}
	return Wrap(quotient), Wrap(dividend % divisor), Flags(quotient, false), true
}

// Shift returns a word that is shifted arithmetically, and its condition codes.
func Shift(w, n int) (int, int) {
	count := shiftCount(n)
	if count < 0 {
		return shiftRight(Signed(w), -count)
	}
	return shiftLeft(Wrap(w), count)
}

// shiftCount returns the lowest six bits of n as a number with a sign.
func shiftCount(n int) int {
	return (n&63 ^ 32) - 32
}

// shiftLeft goes bit by bit, because a sign that differs for one move only sets V too.
func shiftLeft(w, count int) (int, int) {
	k := widths[0]
	r, out, over := w, false, false
	for range count {
		out = k.negative(r)
		r = Wrap(r << 1)
		over = over || k.negative(r) != k.negative(w)
	}
	return r, k.flags(r) | when(codeV, over) | when(codeC, out)
}

// shiftRight takes a signed value, whose sign Go's shift repeats; count is at least 1.
func shiftRight(value, count int) (int, int) {
	out := value>>(count-1)&1 != 0
	r := Wrap(value >> count)
	return r, Flags(r, false) | when(codeC, out)
}

// Rotate returns an operand that is rotated through the carry, and its condition codes.
func Rotate(w, carry int, left, byte bool) (int, int) {
	k := widthOf(byte)
	w, carry = w&k.mask, carry&1
	var r int
	var out bool
	if left {
		r, out = (w<<1|carry)&k.mask, k.negative(w)
	} else {
		r, out = w>>1|carry*k.sign, w&1 != 0
	}
	return r, k.flags(r) | when(codeV, k.negative(r) != out) | when(codeC, out)
}
