package alu_test

import (
	"math"
	"testing"

	"emulator/alu"
	"emulator/api"
)

// P10.4: Long.

type longCase struct {
	reg, next, w       int
	first, second, cds int
	stored             bool
}

func checkLongs(t *testing.T, op api.Op, cases []longCase) {
	t.Helper()
	for _, k := range cases {
		for _, flags := range allFlags() {
			if a, b, f, stored := alu.Long(op, k.reg, k.next, k.w, flags); a != k.first || b != k.second || f != k.cds || stored != k.stored {
				t.Errorf("Long(%d, %d, %d, %d, %d) = %d, %d, %d, %v, want %d, %d, %d, %v", op, k.reg, k.next, k.w, flags, a, b, f, stored, k.first, k.second, k.cds, k.stored)
			}
		}
	}
}

func TestMul(t *testing.T) {
	checkLongs(t, api.OpMul, []longCase{
		{3, 9, 5, 0, 15, 0, true}, {0, 9, 5, 0, 0, z, true}, {65535, 9, 2, 65535, 65534, n, true}, {256, 9, 256, 1, 0, c, true}, {32767, 9, 1, 0, 32767, 0, true}, {32768, 9, 1, 65535, 32768, n, true},
		{16384, 9, 2, 0, 32768, c, true}, {32768, 9, 65535, 0, 32768, c, true}, {32768, 9, 32768, 16384, 0, c, true}, {32767, 9, 32767, 16383, 1, c, true}, {32768, 9, 32767, 49152, 32768, n + c, true}, {65535, 9, 65535, 0, 1, 0, true},
		{-1, -1, 65538, 65535, 65534, n, true}, {65536, 9, 7, 0, 0, z, true}, {math.MaxInt, math.MinInt, math.MaxInt, 0, 1, 0, true},
	})
}

func TestDiv(t *testing.T) {
	checkLongs(t, api.OpDiv, []longCase{
		{0, 7, 2, 3, 1, 0, true}, {0, 7, 65534, 65533, 1, n, true}, {65535, 65529, 2, 65533, 65535, n, true}, {65535, 65529, 65534, 3, 65535, 0, true}, {0, 3, 5, 0, 3, z, true}, {65535, 65533, 5, 0, 65533, z, true}, {0, 0, 1, 0, 0, z, true},
		{0, 32767, 1, 32767, 0, 0, true}, {65535, 32768, 1, 32768, 0, n, true}, {0, 32768, 65535, 32768, 0, n, true}, {16384, 0, 32768, 32768, 0, n, true}, {49152, 32768, 32768, 32767, 0, 0, true},
		{65536, 65543, -2, 65533, 1, n, true}, {-1, -7, 65538, 65533, 65535, n, true},
	})
}

func TestDivThatStoresNothing(t *testing.T) {
	checkLongs(t, api.OpDiv, []longCase{
		{0, 0, 0, 0, 0, v + c, false}, {0, 7, 0, 0, 7, v + c, false}, {65535, 32768, 0, 65535, 32768, v + c, false}, {5, 6, 65536, 5, 6, v + c, false}, {-1, 65541, -65536, 65535, 5, v + c, false}, {math.MinInt, math.MaxInt, math.MinInt, 0, 65535, v + c, false},
		{1, 5, 1, 1, 5, v, false}, {0, 32768, 1, 0, 32768, v, false}, {0, 32769, 65535, 0, 32769, v, false}, {65535, 32767, 1, 65535, 32767, v, false}, {65535, 32768, 65535, 65535, 32768, v, false}, {32768, 0, 65535, 32768, 0, v, false}, {32767, 65535, 1, 32767, 65535, v, false}, {65537, -65535, -65535, 1, 1, v, false}, {-32768, -1, 1, 32768, 65535, v, false},
	})
}

func TestAsh(t *testing.T) {
	checkLongs(t, api.OpAsh, []longCase{
		{3, 9, 0, 3, 9, 0, true}, {3, 9, 1, 6, 9, 0, true}, {16384, 9, 1, 32768, 9, n + v, true}, {32769, 9, 1, 2, 9, v + c, true}, {1, 9, 16, 0, 9, z + v + c, true}, {1, 9, 31, 0, 9, z + v, true}, {65535, 9, 15, 32768, 9, n + c, true},
		{3, 65535, 65535, 1, 65535, c, true}, {32769, 0, 63, 49152, 0, n + c, true}, {32768, 9, 32, 65535, 9, n + c, true}, {32767, 9, 32, 0, 9, z, true}, {1, 9, 64, 1, 9, 0, true}, {0, 9, 5, 0, 9, z, true},
		{65539, -1, -1, 1, 65535, c, true}, {-32767, 65536, 65, 2, 0, v + c, true}, {-1, math.MaxInt, math.MinInt, 65535, 65535, n, true}, {4, math.MinInt, -63, 8, 0, 0, true},
	})
}

func TestLongWithTheModel(t *testing.T) {
	for _, op := range longs {
		for _, reg := range allInts() {
			for _, next := range allInts() {
				for _, w := range allInts() {
					checkLong(t, op, reg, next, w)
				}
			}
		}
	}
}

func TestAshByAllCounts(t *testing.T) {
	for _, reg := range allInts() {
		for count := -200; count <= 200; count++ {
			checkLong(t, api.OpAsh, reg, reg, count)
		}
	}
}

// TestDivAtTheEndsOfTheQuotient divides the dividends around those whose quotients are the first and the last ones that fit.
func TestDivAtTheEndsOfTheQuotient(t *testing.T) {
	for _, w := range edges {
		divisor := value(w, false)
		for _, quotient := range []int{-32769, -32768, -32767, -1, 0, 1, 32766, 32767, 32768} {
			for _, more := range []int{-1, 0, 1, divisor - 1, divisor, divisor + 1, -divisor, -divisor - 1, 1 - divisor} {
				dividend := quotient*divisor + more
				low := modulo(dividend, 65536)
				checkLong(t, api.OpDiv, (dividend-low)/65536, low, w)
			}
		}
	}
}

func checkLong(t *testing.T, op api.Op, reg, next, w int) {
	t.Helper()
	first, second, codes, keep := wantLong(op, reg, next, w)
	if a, b, f, stored := alu.Long(op, reg, next, w, 0); a != first || b != second || f != codes || stored != keep {
		t.Fatalf("Long(%d, %d, %d, %d) = %d, %d, %d, %v, want %d, %d, %d, %v", op, reg, next, w, a, b, f, stored, first, second, codes, keep)
	}
}

func TestLongDoesNotLookAtFlags(t *testing.T) {
	for _, op := range longs {
		for _, reg := range edges {
			for _, w := range edges {
				a, b, f, stored := alu.Long(op, reg, 12345, w, 0)
				for _, flags := range allFlags() {
					if a2, b2, f2, stored2 := alu.Long(op, reg, 12345, w, flags); a != a2 || b != b2 || f != f2 || stored != stored2 {
						t.Fatalf("Long(%d, %d, 12345, %d, %d) = %d, %d, %d, %v", op, reg, w, flags, a2, b2, f2, stored2)
					}
				}
			}
		}
	}
}

func TestOtherOperationsHaveNoLong(t *testing.T) {
	for _, op := range othersThan(longs) {
		for _, reg := range []int{0, 1, 32768, 65535, -1, 1 << 40} {
			for _, w := range []int{0, 1, 3, 65535, -65536} {
				for _, flags := range allFlags() {
					if a, b, f, stored := alu.Long(op, reg, 7, w, flags); a != 0 || b != 0 || f != 0 || stored {
						t.Fatalf("Long(%d, %d, 7, %d, %d) = %d, %d, %d, %v", op, reg, w, flags, a, b, f, stored)
					}
				}
			}
		}
	}
}
