package alu_test

import (
	"testing"

	"emulator/alu"
	"emulator/api"
)

// P10.1: Double.

type doubleCase struct {
	op              api.Op
	byte            bool
	src, dst, flags int
	want, codes     int
	stored          bool
}

func checkDoubles(t *testing.T, cases []doubleCase) {
	t.Helper()
	for _, k := range cases {
		if r, f, stored := alu.Double(k.op, k.byte, k.src, k.dst, k.flags); r != k.want || f != k.codes || stored != k.stored {
			t.Errorf("Double(%d, %v, %d, %d, %d) = %d, %d, %v, want %d, %d, %v", k.op, k.byte, k.src, k.dst, k.flags, r, f, stored, k.want, k.codes, k.stored)
		}
	}
}

func TestMov(t *testing.T) {
	checkDoubles(t, []doubleCase{
		{api.OpMov, false, 0, 5, 0, 0, z, true}, {api.OpMov, false, 0, 5, 15, 0, z + c, true}, {api.OpMov, false, 1, 5, 14, 1, 0, true}, {api.OpMov, false, 1, 5, 1, 1, c, true},
		{api.OpMov, false, 32767, 65535, 2, 32767, 0, true}, {api.OpMov, false, 32768, 0, 0, 32768, n, true}, {api.OpMov, false, 65535, 0, 7, 65535, n + c, true}, {api.OpMov, false, 128, 0, 0, 128, 0, true},
		{api.OpMov, true, 127, 255, 3, 127, c, true}, {api.OpMov, true, 128, 0, 0, 128, n, true}, {api.OpMov, true, 255, 0, 15, 255, n + c, true}, {api.OpMov, true, 256, 9, 0, 0, z, true}, {api.OpMov, true, -1, 9, 0, 255, n, true}, {api.OpMov, false, -1, 9, 1, 65535, n + c, true}, {api.OpMov, false, 65536, 9, 0, 0, z, true},
	})
}

func TestCmpTakesSrcLessDst(t *testing.T) {
	checkDoubles(t, []doubleCase{
		{api.OpCmp, false, 5, 3, 15, 2, 0, false}, {api.OpCmp, false, 3, 5, 0, 65534, n + c, false}, {api.OpCmp, false, 5, 5, 1, 0, z, false}, {api.OpCmp, false, 0, 1, 0, 65535, n + c, false}, {api.OpCmp, false, 1, 0, 15, 1, 0, false},
		{api.OpCmp, false, 32768, 1, 0, 32767, v, false}, {api.OpCmp, false, 1, 32768, 0, 32769, n + v + c, false}, {api.OpCmp, false, 32767, 65535, 0, 32768, n + v + c, false}, {api.OpCmp, false, 65535, 32767, 1, 32768, n, false}, {api.OpCmp, false, 65535, 65535, 15, 0, z, false},
		{api.OpCmp, true, 128, 1, 1, 127, v, false}, {api.OpCmp, true, 1, 128, 0, 129, n + v + c, false}, {api.OpCmp, true, 0, 255, 0, 1, c, false}, {api.OpCmp, true, 256, 512, 0, 0, z, false}, {api.OpCmp, false, 256, 512, 0, 65280, n + c, false}, {api.OpCmp, true, -1, 255, 0, 0, z, false},
	})
}

func TestAddAndSub(t *testing.T) {
	checkDoubles(t, []doubleCase{
		{api.OpAdd, false, 1, 2, 15, 3, 0, true}, {api.OpAdd, false, 1, 65535, 0, 0, z + c, true}, {api.OpAdd, false, 32767, 1, 1, 32768, n + v, true}, {api.OpAdd, false, 32768, 32768, 0, 0, z + v + c, true}, {api.OpAdd, false, 65535, 65535, 0, 65534, n + c, true}, {api.OpAdd, false, 0, 0, 15, 0, z, true}, {api.OpAdd, false, -1, -1, 0, 65534, n + c, true}, {api.OpAdd, false, 65537, -65535, 0, 2, 0, true},
		{api.OpSub, false, 3, 5, 15, 2, 0, true}, {api.OpSub, false, 5, 3, 0, 65534, n + c, true}, {api.OpSub, false, 5, 5, 1, 0, z, true}, {api.OpSub, false, 1, 32768, 0, 32767, v, true}, {api.OpSub, false, 32768, 1, 0, 32769, n + v + c, true}, {api.OpSub, false, 32768, 0, 0, 32768, n + v + c, true}, {api.OpSub, false, 65535, 32767, 15, 32768, n + v + c, true}, {api.OpSub, false, 1, 65536, 0, 65535, n + c, true},
	})
}

func TestOperationsOnBits(t *testing.T) {
	checkDoubles(t, []doubleCase{
		{api.OpBit, false, 12, 10, 0, 8, 0, false}, {api.OpBit, false, 5, 10, 15, 0, z + c, false}, {api.OpBit, false, 65535, 32768, 2, 32768, n, false}, {api.OpBit, true, 384, 128, 0, 128, n, false}, {api.OpBit, true, 256, 256, 1, 0, z + c, false},
		{api.OpBic, false, 12, 10, 0, 2, 0, true}, {api.OpBic, false, 10, 12, 0, 4, 0, true}, {api.OpBic, false, 65535, 65535, 15, 0, z + c, true}, {api.OpBic, false, 0, 65535, 6, 65535, n, true}, {api.OpBic, true, 65280, 128, 1, 128, n + c, true}, {api.OpBic, true, 128, 65535, 0, 127, 0, true},
		{api.OpBis, false, 12, 10, 0, 14, 0, true}, {api.OpBis, false, 0, 0, 15, 0, z + c, true}, {api.OpBis, false, 32768, 1, 3, 32769, n + c, true}, {api.OpBis, true, 256, 512, 0, 0, z, true}, {api.OpBis, true, 64, 128, 0, 192, n, true},
		{api.OpXor, false, 12, 10, 0, 6, 0, true}, {api.OpXor, false, 65535, 65535, 15, 0, z + c, true}, {api.OpXor, false, 32768, 1, 14, 32769, n, true}, {api.OpXor, false, -1, 0, 0, 65535, n, true}, {api.OpXor, false, 98304, 65536, 1, 32768, n + c, true},
	})
}

func checkDouble(t *testing.T, op api.Op, byte bool, src, dst, flags int) {
	t.Helper()
	want, codes, keep := wantDouble(op, byte, src, dst, flags)
	if byte && has(words, op) {
		want, codes, keep = 0, 0, false
	}
	if r, f, stored := alu.Double(op, byte, src, dst, flags); r != want || f != codes || stored != keep {
		t.Fatalf("Double(%d, %v, %d, %d, %d) = %d, %d, %v, want %d, %d, %v", op, byte, src, dst, flags, r, f, stored, want, codes, keep)
	}
}

func TestDoubleOfWords(t *testing.T) {
	for _, op := range doubles {
		for _, src := range edges {
			for _, dst := range edges {
				for flags := range 16 {
					checkDouble(t, op, false, src, dst, flags)
				}
			}
		}
	}
}

func TestDoubleOfBytes(t *testing.T) {
	for _, op := range doubles {
		for src := range 256 {
			for dst := range 256 {
				checkDouble(t, op, true, src, dst, 0)
				checkDouble(t, op, true, src, dst, 15)
			}
		}
		for _, src := range edges {
			for _, dst := range edges {
				for flags := range 16 {
					checkDouble(t, op, true, src, dst, flags)
				}
			}
		}
	}
}

func TestDoubleReducesItsOperands(t *testing.T) {
	for _, op := range doubles {
		for _, byte := range []bool{false, true} {
			for _, src := range allInts() {
				for _, dst := range allInts() {
					checkDouble(t, op, byte, src, dst, 3)
					checkDouble(t, op, byte, src, dst, 12)
				}
			}
		}
	}
}

func TestDoubleTakesFourBitsOfFlags(t *testing.T) {
	for _, op := range doubles {
		for _, byte := range []bool{false, true} {
			for _, flags := range farFlags {
				for _, w := range []int{0, 1, 127, 128, 32767, 32768, 65535} {
					checkDouble(t, op, byte, w, w, flags)
					checkDouble(t, op, byte, w, 0, flags)
					checkDouble(t, op, byte, 1, w, flags)
				}
			}
		}
	}
}

// TestCodesOfDouble says for every operation where its condition codes come from, apart from the model.
func TestCodesOfDouble(t *testing.T) {
	for _, op := range doubles {
		keeps := op != api.OpCmp && op != api.OpAdd && op != api.OpSub
		for _, src := range edges {
			for _, dst := range edges {
				_, before, _ := alu.Double(op, false, src, dst, 0)
				for flags := range 16 {
					_, f, _ := alu.Double(op, false, src, dst, flags)
					if keeps && (f != before+flags%2 || isSet(f, v)) || !keeps && f != before {
						t.Fatalf("Double(%d, false, %d, %d, %d): condition codes %d, without any before it %d", op, src, dst, flags, f, before)
					}
				}
			}
		}
	}
}

func TestOnlyCmpAndBitStoreNothing(t *testing.T) {
	for _, op := range doubles {
		for _, byte := range []bool{false, true} {
			if byte && has(words, op) {
				continue
			}
			if _, _, stored := alu.Double(op, byte, 3, 5, 0); stored == (op == api.OpCmp || op == api.OpBit) {
				t.Errorf("Double(%d, %v): stored %v", op, byte, stored)
			}
		}
	}
}

func checkNoDouble(t *testing.T, op api.Op, byte bool) {
	t.Helper()
	for _, src := range []int{0, 1, 128, 32768, 65535, -1, 1 << 40} {
		for _, dst := range []int{0, 3, 255, 32767, -65536} {
			for _, flags := range allFlags() {
				if r, f, stored := alu.Double(op, byte, src, dst, flags); r != 0 || f != 0 || stored {
					t.Fatalf("Double(%d, %v, %d, %d, %d) = %d, %d, %v", op, byte, src, dst, flags, r, f, stored)
				}
			}
		}
	}
}

func TestNoBytesForAddSubAndXor(t *testing.T) {
	for _, op := range []api.Op{api.OpAdd, api.OpSub, api.OpXor} {
		checkNoDouble(t, op, true)
	}
}

func TestOtherOperationsHaveNoDouble(t *testing.T) {
	for _, op := range othersThan(doubles) {
		checkNoDouble(t, op, false)
		checkNoDouble(t, op, true)
	}
}
