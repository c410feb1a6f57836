package alu_test

import (
	"math"

	"emulator/api"
)

// The condition codes as a number.
const (
	c = 1
	v = 2
	z = 4
	n = 8
)

// edges has the words at which signs, carries and bytes change.
var edges = []int{0, 1, 2, 3, 7, 126, 127, 128, 129, 130, 253, 254, 255, 256, 257, 384, 511, 512, 16383, 16384, 16385, 21845, 32639, 32640, 32765, 32766, 32767, 32768, 32769, 32770, 32896, 43690, 49151, 49152, 65279, 65280, 65281, 65407, 65408, 65409, 65533, 65534, 65535}

// far has integers that are neither words nor bytes.
var far = []int{-1, -2, -3, -127, -128, -129, -255, -256, -257, -32767, -32768, -32769, -65535, -65536, -65537, 65536, 65537, 65663, 65664, 98303, 98304, 98305, 131071, 131072, 1<<31 - 1, 1 << 31, -1 << 31, 1 << 32, 1<<32 - 1, 1<<32 + 128, 1<<40 + 5, 1 << 62, -1 << 62, math.MaxInt - 1, math.MaxInt, math.MinInt, math.MinInt + 1, math.MinInt + 32768}

// farFlags has numbers whose lowest four bits are condition codes, and that have other bits or are negative.
var farFlags = []int{16, 17, 31, 32, 0x50, 0xF5, 0xC01F, 0xFFF0, 0xFFFA, 65536, 65541, 1<<31 + 3, 1<<32 + 12, 1<<62 + 9, math.MaxInt, math.MaxInt - 9, -1, -2, -3, -8, -9, -15, -16, -17, -65536, -65531, math.MinInt, math.MinInt + 6, math.MinInt + 11}

// farOps has numbers that are no operations.
var farOps = []api.Op{0, -1, -2, -5, -6, -12, -26, -56, -64, -256, 57, 58, 63, 64, 65, 127, 128, 255, 256, 257, 262, 268, 282, 65536, 65537, 65542, 65548, 65562, 1 << 31, 1<<31 - 1, -1 << 31, 1 << 32, 1<<32 + 1, 1<<32 + 8, 1<<32 + 12, 1<<32 + 26, math.MaxInt, math.MaxInt - 1, math.MinInt, math.MinInt + 1, math.MinInt + 8, math.MinInt + 12, math.MinInt + 26}

// The operations of each kind, as the document lists them.
var (
	doubles  = []api.Op{api.OpMov, api.OpCmp, api.OpBit, api.OpBic, api.OpBis, api.OpAdd, api.OpSub, api.OpXor}
	singles  = []api.Op{api.OpClr, api.OpCom, api.OpInc, api.OpDec, api.OpNeg, api.OpAdc, api.OpSbc, api.OpTst, api.OpRor, api.OpRol, api.OpAsr, api.OpAsl, api.OpSwab, api.OpSxt}
	branches = []api.Op{api.OpBr, api.OpBne, api.OpBeq, api.OpBge, api.OpBlt, api.OpBgt, api.OpBle, api.OpBpl, api.OpBmi, api.OpBhi, api.OpBlos, api.OpBvc, api.OpBvs, api.OpBcc, api.OpBcs}
	longs    = []api.Op{api.OpMul, api.OpDiv, api.OpAsh}
	words    = []api.Op{api.OpAdd, api.OpSub, api.OpXor, api.OpSwab, api.OpSxt} // those without a form for bytes
)

// othersThan returns the numbers of all operations that are not in a list, and numbers that are no operations.
func othersThan(ops []api.Op) []api.Op {
	l := append([]api.Op{}, farOps...)
	for op := api.Op(-100); op <= 300; op++ {
		if !has(ops, op) {
			l = append(l, op)
		}
	}
	return l
}

func has(ops []api.Op, op api.Op) bool {
	for _, o := range ops {
		if o == op {
			return true
		}
	}
	return false
}

// allInts returns the edges and the integers that are no words.
func allInts() []int {
	return append(append([]int{}, edges...), far...)
}

// allFlags returns all condition codes, and numbers with further bits.
func allFlags() []int {
	l := append([]int{}, farFlags...)
	for f := range 16 {
		l = append(l, f)
	}
	return l
}

// modulo returns the remainder from 0 to m - 1. The model counts with division, so that it shares nothing with masks and shifts.
func modulo(k, m int) int {
	r := k % m
	if r < 0 {
		r += m
	}
	return r
}

// size returns 2 to the power of the width.
func size(byte bool) int {
	if byte {
		return 256
	}
	return 65536
}

// value returns the signed value of an operand.
func value(w int, byte bool) int {
	m := size(byte)
	if w = modulo(w, m); w >= m/2 {
		return w - m
	}
	return w
}

// code returns a condition code if it is set.
func code(bit int, set bool) int {
	if set {
		return bit
	}
	return 0
}

// isSet tells whether one of the condition codes is set in a number.
func isSet(flags, bit int) bool {
	return modulo(flags, 16)/bit%2 == 1
}

// signs returns the condition codes N and Z of a result.
func signs(r int, byte bool) int {
	return code(n, value(r, byte) < 0) + code(z, modulo(r, size(byte)) == 0)
}

// eachBit returns the number whose bits are those that a function makes of the bits of two numbers at the same place.
func eachBit(a, b, m int, of func(x, y int) bool) int {
	r := 0
	for place := 1; place < m; place *= 2 {
		if of(a/place%2, b/place%2) {
			r += place
		}
	}
	return r
}

// sum returns a + b + carry: V and C tell that the signed and the unsigned sum are out of range.
func sum(a, b, carry int, byte bool) (int, int) {
	m := size(byte)
	exact := value(a, byte) + value(b, byte) + carry
	total := modulo(a, m) + modulo(b, m) + carry
	return total % m, signs(total, byte) + code(v, exact < -m/2 || exact >= m/2) + code(c, total >= m)
}

// difference returns a - b - borrow with its condition codes likewise.
func difference(a, b, borrow int, byte bool) (int, int) {
	m := size(byte)
	exact := value(a, byte) - value(b, byte) - borrow
	total := modulo(a, m) - modulo(b, m) - borrow
	return modulo(total, m), signs(total, byte) + code(v, exact < -m/2 || exact >= m/2) + code(c, total < 0)
}

// shifted returns a result and the condition codes of a rotation or a shift by one bit: V tells whether N and C differ.
func shifted(r, out int, byte bool) (int, int) {
	return r, signs(r, byte) + code(c, out == 1) + code(v, (value(r, byte) < 0) != (out == 1))
}

// wantDouble returns what P10.1 says of an operation that there is in this width.
func wantDouble(op api.Op, byte bool, src, dst, flags int) (int, int, bool) {
	m := size(byte)
	src, dst = modulo(src, m), modulo(dst, m)
	kept := modulo(flags, 2) * c
	r := 0
	switch op {
	case api.OpCmp:
		r, f := difference(src, dst, 0, byte)
		return r, f, false
	case api.OpAdd:
		r, f := sum(dst, src, 0, byte)
		return r, f, true
	case api.OpSub:
		r, f := difference(dst, src, 0, byte)
		return r, f, true
	case api.OpMov:
		r = src
	case api.OpBit:
		r = eachBit(src, dst, m, func(x, y int) bool { return x == 1 && y == 1 })
	case api.OpBic:
		r = eachBit(src, dst, m, func(x, y int) bool { return x == 0 && y == 1 })
	case api.OpBis:
		r = eachBit(src, dst, m, func(x, y int) bool { return x == 1 || y == 1 })
	case api.OpXor:
		r = eachBit(src, dst, m, func(x, y int) bool { return x != y })
	}
	return r, signs(r, byte) + kept, op != api.OpBit
}

// wantSingle returns what P10.2 says of an operation that there is in this width.
func wantSingle(op api.Op, byte bool, w, flags int) (int, int, bool) {
	r, f := singleModel(op, byte, modulo(w, size(byte)), modulo(flags, 16))
	return r, f, op != api.OpTst
}

func singleModel(op api.Op, byte bool, w, flags int) (int, int) {
	m, carry := size(byte), flags%2
	switch op {
	case api.OpClr:
		return 0, z
	case api.OpCom:
		return m - 1 - w, signs(m-1-w, byte) + c
	case api.OpInc:
		r, f := sum(w, 1, 0, byte)
		return r, f/2*2 + carry
	case api.OpDec:
		r, f := difference(w, 1, 0, byte)
		return r, f/2*2 + carry
	case api.OpNeg:
		return difference(0, w, 0, byte)
	case api.OpAdc:
		return sum(w, 0, carry, byte)
	case api.OpSbc:
		return difference(w, 0, carry, byte)
	case api.OpTst:
		return w, signs(w, byte)
	case api.OpRor:
		return shifted(w/2+carry*m/2, w%2, byte)
	case api.OpRol:
		return shifted(w*2%m+carry, w/(m/2), byte)
	case api.OpAsr:
		return shifted(w/2+w/(m/2)*(m/2), w%2, byte)
	case api.OpAsl:
		return shifted(w*2%m, w/(m/2), byte)
	case api.OpSwab:
		return w%256*256 + w/256, signs(w/256, true)
	}
	return code(65535, isSet(flags, n)), code(n, isSet(flags, n)) + code(z, !isSet(flags, n)) + carry // sxt
}

// wantLong returns what P10.4 says of mul, div and ash.
func wantLong(op api.Op, reg, next, w int) (int, int, int, bool) {
	switch op {
	case api.OpMul:
		product := value(reg, false) * value(w, false)
		low := modulo(product, 65536)
		return modulo((product-low)/65536, 65536), low, code(n, product < 0) + code(z, product == 0) + code(c, product < -32768 || product > 32767), true
	case api.OpDiv:
		return wantDiv(reg, next, w)
	}
	r, f := moves(modulo(reg, 65536), modulo(w, 64))
	return r, modulo(next, 65536), f, true
}

// wantDiv divides the absolute values, so that rounding toward 0 does not rest on the division of negative numbers.
func wantDiv(high, low, d int) (int, int, int, bool) {
	dividend, divisor := 65536*value(high, false)+modulo(low, 65536), value(d, false)
	if divisor == 0 {
		return modulo(high, 65536), modulo(low, 65536), v + c, false
	}
	quotient := max(dividend, -dividend) / max(divisor, -divisor)
	if (dividend < 0) != (divisor < 0) {
		quotient = -quotient
	}
	if quotient < -32768 || quotient > 32767 {
		return modulo(high, 65536), modulo(low, 65536), v, false
	}
	rest := dividend - quotient*divisor
	return modulo(quotient, 65536), modulo(rest, 65536), code(n, quotient < 0) + code(z, quotient == 0), true
}

// moves shifts a word one bit after the other, to the left if the count is below 32, and to the right 64 - count times otherwise.
func moves(w, count int) (int, int) {
	r, out, over := w, 0, false
	if count < 32 {
		for range count {
			out, r = r/32768, r%32768*2
			over = over || r/32768 != w/32768
		}
	} else {
		for range 64 - count {
			out, r = r%2, r/2+r/32768*32768
		}
	}
	return r, signs(r, false) + code(v, over) + code(c, out == 1)
}
