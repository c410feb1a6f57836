package alu_test

import (
	"testing"

	"emulator/alu"
	"emulator/api"
)

// P10.5: the consequences.

func TestOppositeBranches(t *testing.T) {
	for _, pair := range [][2]api.Op{{api.OpBne, api.OpBeq}, {api.OpBge, api.OpBlt}, {api.OpBgt, api.OpBle}, {api.OpBpl, api.OpBmi}, {api.OpBhi, api.OpBlos}, {api.OpBvc, api.OpBvs}, {api.OpBcc, api.OpBcs}} {
		for _, flags := range allFlags() {
			if alu.Taken(pair[0], flags) == alu.Taken(pair[1], flags) {
				t.Errorf("%d and %d with %d: both %v", pair[0], pair[1], flags, alu.Taken(pair[0], flags))
			}
		}
	}
}

// checkCompared checks the branches after cmp of two operands.
func checkCompared(t *testing.T, src, dst, flags int, byte bool) {
	t.Helper()
	m := size(byte)
	_, f, _ := alu.Double(api.OpCmp, byte, src, dst, flags)
	below, less := modulo(src, m) < modulo(dst, m), value(src, byte) < value(dst, byte)
	equal := modulo(src, m) == modulo(dst, m)
	for _, k := range []struct {
		op   api.Op
		want bool
	}{
		{api.OpBlt, less}, {api.OpBge, !less}, {api.OpBle, less || equal}, {api.OpBgt, !less && !equal},
		{api.OpBcs, below}, {api.OpBcc, !below}, {api.OpBlos, below || equal}, {api.OpBhi, !below && !equal},
		{api.OpBeq, equal}, {api.OpBne, !equal}, {api.OpBr, true},
	} {
		if got := alu.Taken(k.op, f); got != k.want {
			t.Fatalf("after cmp of %d and %d (bytes: %v) the branch %d: %v", src, dst, byte, k.op, got)
		}
	}
}

func TestBranchesAfterCmp(t *testing.T) {
	for src := range 256 {
		for dst := range 256 {
			checkCompared(t, src, dst, src%16, true)
		}
	}
	for _, src := range allInts() {
		for _, dst := range allInts() {
			checkCompared(t, src, dst, 0, false)
			checkCompared(t, src, dst, 15, false)
			checkCompared(t, src, dst, 15, true)
		}
	}
}

func TestTwiceRestores(t *testing.T) {
	for _, op := range []api.Op{api.OpCom, api.OpNeg, api.OpSwab} {
		for w := range 65536 {
			once, f, _ := alu.Single(op, false, w, 0)
			if twice, _, stored := alu.Single(op, false, once, f); twice != w || !stored {
				t.Fatalf("the operation %d of %d twice: %d", op, w, twice)
			}
		}
		if op == api.OpSwab {
			continue
		}
		for w := range 256 {
			once, f, _ := alu.Single(op, true, w, 0)
			if twice, _, stored := alu.Single(op, true, once, f); twice != w || !stored {
				t.Fatalf("the operation %d of the byte %d twice: %d", op, w, twice)
			}
		}
	}
}

func TestSubUndoesAdd(t *testing.T) {
	for _, src := range allInts() {
		for _, dst := range allInts() {
			r, f, _ := alu.Double(api.OpAdd, false, src, dst, 0)
			if r, _, stored := alu.Double(api.OpSub, false, src, r, f); r != modulo(dst, 65536) || !stored {
				t.Fatalf("add %d to %d and sub it: %d", src, dst, r)
			}
		}
	}
}

func TestDecUndoesInc(t *testing.T) {
	for _, byte := range []bool{false, true} {
		for w := range size(byte) {
			for flags := range 2 {
				r, f, _ := alu.Single(api.OpInc, byte, w, flags)
				if back, g, stored := alu.Single(api.OpDec, byte, r, f); back != w || g%2 != flags || !stored {
					t.Fatalf("inc and dec of %d with %d: %d, %d", w, flags, back, g)
				}
			}
		}
	}
}

// The examples of the chapter, and those of the document that concern this layer.

func TestExamples(t *testing.T) {
	checkDoubles(t, []doubleCase{
		{api.OpAdd, false, 1, 32767, 0, 32768, 10, true},
		{api.OpAdd, false, 32767, 1, 0, 32768, 10, true},
		{api.OpCmp, true, 5, 261, 2, 0, 4, false},
		{api.OpMov, true, 384, 0, 1, 128, 9, true},
	})
	checkSingles(t, []singleCase{
		{api.OpInc, false, 32767, 1, 32768, 11, true},
		{api.OpNeg, true, 128, 0, 128, 11, true},
		{api.OpSwab, false, 384, 15, 32769, 0, true},
		{api.OpSxt, false, 7, 9, 65535, 9, true},
	})
	if !alu.Taken(api.OpBgt, 10) || !alu.Taken(api.OpBlos, 4) || alu.Taken(api.OpMov, 0) {
		t.Error("example 3:", alu.Taken(api.OpBgt, 10), alu.Taken(api.OpBlos, 4), alu.Taken(api.OpMov, 0))
	}
	if a, b, f, stored := alu.Long(api.OpDiv, 0, 7, 0, 9); a != 0 || b != 7 || f != 3 || stored {
		t.Error("example 4: div", a, b, f, stored)
	}
	if a, b, f, stored := alu.Long(api.OpAsh, 3, 9, 65535, 0); a != 1 || b != 9 || f != 1 || !stored {
		t.Error("example 4: ash", a, b, f, stored)
	}
}
