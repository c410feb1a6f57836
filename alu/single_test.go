package alu_test

import (
	"testing"

	"emulator/alu"
	"emulator/api"
)

// P10.2: Single.

type singleCase struct {
	op          api.Op
	byte        bool
	w, flags    int
	want, codes int
	stored      bool
}

func checkSingles(t *testing.T, cases []singleCase) {
	t.Helper()
	for _, k := range cases {
		if r, f, stored := alu.Single(k.op, k.byte, k.w, k.flags); r != k.want || f != k.codes || stored != k.stored {
			t.Errorf("Single(%d, %v, %d, %d) = %d, %d, %v, want %d, %d, %v", k.op, k.byte, k.w, k.flags, r, f, stored, k.want, k.codes, k.stored)
		}
	}
}

func TestClrComAndTst(t *testing.T) {
	checkSingles(t, []singleCase{
		{api.OpClr, false, 65535, 15, 0, z, true}, {api.OpClr, false, 0, 0, 0, z, true}, {api.OpClr, true, 255, 11, 0, z, true}, {api.OpClr, true, -1, 1, 0, z, true},
		{api.OpCom, false, 0, 0, 65535, n + c, true}, {api.OpCom, false, 65535, 14, 0, z + c, true}, {api.OpCom, false, 32768, 2, 32767, c, true}, {api.OpCom, false, 1, 15, 65534, n + c, true}, {api.OpCom, true, 0, 0, 255, n + c, true}, {api.OpCom, true, 65535, 0, 0, z + c, true}, {api.OpCom, true, 128, 2, 127, c, true}, {api.OpCom, false, -1, 0, 0, z + c, true},
		{api.OpTst, false, 0, 15, 0, z, false}, {api.OpTst, false, 1, 15, 1, 0, false}, {api.OpTst, false, 32768, 15, 32768, n, false}, {api.OpTst, false, 128, 1, 128, 0, false}, {api.OpTst, true, 128, 1, 128, n, false}, {api.OpTst, true, 256, 3, 0, z, false}, {api.OpTst, true, 65535, 0, 255, n, false}, {api.OpTst, false, -1, 0, 65535, n, false},
	})
}

func TestIncAndDecKeepC(t *testing.T) {
	checkSingles(t, []singleCase{
		{api.OpInc, false, 65535, 0, 0, z, true}, {api.OpInc, false, 65535, 1, 0, z + c, true}, {api.OpInc, false, 32767, 0, 32768, n + v, true}, {api.OpInc, false, 32767, 15, 32768, n + v + c, true}, {api.OpInc, false, 5, 14, 6, 0, true}, {api.OpInc, false, 5, 15, 6, c, true}, {api.OpInc, false, 255, 0, 256, 0, true}, {api.OpInc, true, 255, 1, 0, z + c, true}, {api.OpInc, true, 127, 0, 128, n + v, true}, {api.OpInc, true, 255, 0, 0, z, true},
		{api.OpDec, false, 0, 0, 65535, n, true}, {api.OpDec, false, 0, 1, 65535, n + c, true}, {api.OpDec, false, 32768, 0, 32767, v, true}, {api.OpDec, false, 32768, 1, 32767, v + c, true}, {api.OpDec, false, 1, 10, 0, z, true}, {api.OpDec, false, 7, 15, 6, c, true}, {api.OpDec, true, 0, 0, 255, n, true}, {api.OpDec, true, 128, 15, 127, v + c, true}, {api.OpDec, true, 256, 1, 255, n + c, true},
	})
}

func TestNegAdcAndSbc(t *testing.T) {
	checkSingles(t, []singleCase{
		{api.OpNeg, false, 0, 15, 0, z, true}, {api.OpNeg, false, 1, 0, 65535, n + c, true}, {api.OpNeg, false, 65535, 1, 1, c, true}, {api.OpNeg, false, 32768, 0, 32768, n + v + c, true}, {api.OpNeg, false, 32767, 2, 32769, n + c, true}, {api.OpNeg, true, 128, 1, 128, n + v + c, true}, {api.OpNeg, true, 256, 1, 0, z, true}, {api.OpNeg, true, 255, 0, 1, c, true},
		{api.OpAdc, false, 65535, 0, 65535, n, true}, {api.OpAdc, false, 65535, 15, 0, z + c, true}, {api.OpAdc, false, 32767, 14, 32767, 0, true}, {api.OpAdc, false, 32767, 1, 32768, n + v, true}, {api.OpAdc, false, 0, 8, 0, z, true}, {api.OpAdc, true, 255, 1, 0, z + c, true}, {api.OpAdc, true, 127, 3, 128, n + v, true}, {api.OpAdc, true, 127, 2, 127, 0, true},
		{api.OpSbc, false, 0, 0, 0, z, true}, {api.OpSbc, false, 0, 1, 65535, n + c, true}, {api.OpSbc, false, 32768, 14, 32768, n, true}, {api.OpSbc, false, 32768, 15, 32767, v, true}, {api.OpSbc, false, 1, 1, 0, z, true}, {api.OpSbc, true, 0, 1, 255, n + c, true}, {api.OpSbc, true, 128, 1, 127, v, true}, {api.OpSbc, true, 256, 14, 0, z, true},
	})
}

func TestRotations(t *testing.T) {
	checkSingles(t, []singleCase{
		{api.OpRor, false, 1, 0, 0, z + v + c, true}, {api.OpRor, false, 1, 1, 32768, n + c, true}, {api.OpRor, false, 2, 1, 32769, n + v, true}, {api.OpRor, false, 0, 14, 0, z, true}, {api.OpRor, false, 32768, 0, 16384, 0, true}, {api.OpRor, true, 256, 0, 0, z, true}, {api.OpRor, true, 1, 1, 128, n + c, true}, {api.OpRor, true, 0, 1, 128, n + v, true},
		{api.OpRol, false, 32768, 0, 0, z + v + c, true}, {api.OpRol, false, 32768, 1, 1, v + c, true}, {api.OpRol, false, 49152, 0, 32768, n + c, true}, {api.OpRol, false, 16384, 14, 32768, n + v, true}, {api.OpRol, false, 0, 1, 1, 0, true}, {api.OpRol, true, 128, 1, 1, v + c, true}, {api.OpRol, true, 127, 1, 255, n + v, true}, {api.OpRol, true, 65535, 0, 254, n + c, true},
	})
}

func TestArithmeticShifts(t *testing.T) {
	checkSingles(t, []singleCase{
		{api.OpAsr, false, 32768, 0, 49152, n + v, true}, {api.OpAsr, false, 32769, 0, 49152, n + c, true}, {api.OpAsr, false, 65535, 0, 65535, n + c, true}, {api.OpAsr, false, 1, 0, 0, z + v + c, true}, {api.OpAsr, false, 2, 15, 1, 0, true}, {api.OpAsr, false, 0, 15, 0, z, true}, {api.OpAsr, false, 128, 0, 64, 0, true}, {api.OpAsr, true, 128, 0, 192, n + v, true}, {api.OpAsr, true, 129, 0, 192, n + c, true}, {api.OpAsr, true, 127, 15, 63, v + c, true}, {api.OpAsr, true, 32768, 1, 0, z, true},
		{api.OpAsl, false, 32768, 0, 0, z + v + c, true}, {api.OpAsl, false, 32769, 15, 2, v + c, true}, {api.OpAsl, false, 16384, 1, 32768, n + v, true}, {api.OpAsl, false, 49152, 0, 32768, n + c, true}, {api.OpAsl, false, 0, 15, 0, z, true}, {api.OpAsl, false, 128, 15, 256, 0, true}, {api.OpAsl, true, 128, 1, 0, z + v + c, true}, {api.OpAsl, true, 64, 1, 128, n + v, true}, {api.OpAsl, true, 257, 1, 2, 0, true},
	})
}

func TestSwabAndSxt(t *testing.T) {
	checkSingles(t, []singleCase{
		{api.OpSwab, false, 0x1234, 15, 0x3412, 0, true}, {api.OpSwab, false, 0x8000, 0, 0x0080, n, true}, {api.OpSwab, false, 0x0080, 3, 0x8000, z, true}, {api.OpSwab, false, 0, 15, 0, z, true}, {api.OpSwab, false, 0x00FF, 15, 0xFF00, z, true}, {api.OpSwab, false, 0xFF00, 15, 0x00FF, n, true}, {api.OpSwab, false, 65535, 0, 65535, n, true}, {api.OpSwab, false, 0x7FFF, 0, 0xFF7F, 0, true}, {api.OpSwab, false, 0x51234, 1, 0x3412, 0, true}, {api.OpSwab, false, -256, 1, 0x00FF, n, true},
		{api.OpSxt, false, 0, 0, 0, z, true}, {api.OpSxt, false, 65535, 7, 0, z + c, true}, {api.OpSxt, false, 65535, 6, 0, z, true}, {api.OpSxt, false, 0, 8, 65535, n, true}, {api.OpSxt, false, 0, 15, 65535, n + c, true}, {api.OpSxt, false, -1, 14, 65535, n, true},
	})
}

func checkSingle(t *testing.T, op api.Op, byte bool, w, flags int) {
	t.Helper()
	want, codes, keep := wantSingle(op, byte, w, flags)
	if byte && has(words, op) {
		want, codes, keep = 0, 0, false
	}
	if r, f, stored := alu.Single(op, byte, w, flags); r != want || f != codes || stored != keep {
		t.Fatalf("Single(%d, %v, %d, %d) = %d, %d, %v, want %d, %d, %v", op, byte, w, flags, r, f, stored, want, codes, keep)
	}
}

func TestSingleOfAllBytes(t *testing.T) {
	for _, op := range singles {
		for w := range 256 {
			for flags := range 16 {
				checkSingle(t, op, true, w, flags)
			}
		}
	}
}

func TestSingleOfWords(t *testing.T) {
	for _, op := range singles {
		for w := range 65536 {
			checkSingle(t, op, false, w, 0)
			checkSingle(t, op, false, w, 15)
		}
		for _, w := range edges {
			for flags := range 16 {
				checkSingle(t, op, false, w, flags)
			}
		}
	}
}

func TestSingleReducesItsOperand(t *testing.T) {
	for _, op := range singles {
		for _, byte := range []bool{false, true} {
			for _, w := range allInts() {
				for flags := range 16 {
					checkSingle(t, op, byte, w, flags)
				}
			}
		}
	}
}

func TestSingleTakesFourBitsOfFlags(t *testing.T) {
	for _, op := range singles {
		for _, byte := range []bool{false, true} {
			for _, flags := range farFlags {
				for _, w := range edges {
					checkSingle(t, op, byte, w, flags)
				}
			}
		}
	}
}

// TestCodesBeforeSingle says for every operation on which condition codes before it its results depend, apart from the model.
func TestCodesBeforeSingle(t *testing.T) {
	for _, op := range singles {
		looksAt := 0
		switch op {
		case api.OpInc, api.OpDec, api.OpAdc, api.OpSbc, api.OpRor, api.OpRol:
			looksAt = c
		case api.OpSxt:
			looksAt = n + c
		}
		for _, w := range edges {
			for flags := range 16 {
				r, f, _ := alu.Single(op, false, w, flags)
				if again, g, _ := alu.Single(op, false, w, flags&looksAt); r != again || f != g {
					t.Fatalf("Single(%d, false, %d, %d) = %d, %d, without the codes that do not count %d, %d", op, w, flags, r, f, again, g)
				}
			}
		}
	}
}

func TestOnlyTstStoresNothing(t *testing.T) {
	for _, op := range singles {
		for _, byte := range []bool{false, true} {
			if byte && has(words, op) {
				continue
			}
			if _, _, stored := alu.Single(op, byte, 3, 0); stored == (op == api.OpTst) {
				t.Errorf("Single(%d, %v): stored %v", op, byte, stored)
			}
		}
	}
}

func checkNoSingle(t *testing.T, op api.Op, byte bool) {
	t.Helper()
	for _, w := range []int{0, 1, 127, 128, 255, 384, 32767, 32768, 65535, -1, -65536, 1 << 40} {
		for _, flags := range allFlags() {
			if r, f, stored := alu.Single(op, byte, w, flags); r != 0 || f != 0 || stored {
				t.Fatalf("Single(%d, %v, %d, %d) = %d, %d, %v", op, byte, w, flags, r, f, stored)
			}
		}
	}
}

func TestNoBytesForSwabAndSxt(t *testing.T) {
	checkNoSingle(t, api.OpSwab, true)
	checkNoSingle(t, api.OpSxt, true)
}

func TestOtherOperationsHaveNoSingle(t *testing.T) {
	for _, op := range othersThan(singles) {
		checkNoSingle(t, op, false)
		checkNoSingle(t, op, true)
	}
}
