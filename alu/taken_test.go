package alu_test

import (
	"testing"

	"emulator/alu"
	"emulator/api"
)

// P10.3: Taken.

// takenFor returns for every branch the condition codes with which it is taken.
func takenFor() map[api.Op][]int {
	return map[api.Op][]int{
		api.OpBr:   {0, 1, 2, 3, 4, 5, 6, 7, 8, 9, 10, 11, 12, 13, 14, 15},
		api.OpBne:  {0, 1, 2, 3, 8, 9, 10, 11},
		api.OpBeq:  {4, 5, 6, 7, 12, 13, 14, 15},
		api.OpBpl:  {0, 1, 2, 3, 4, 5, 6, 7},
		api.OpBmi:  {8, 9, 10, 11, 12, 13, 14, 15},
		api.OpBvc:  {0, 1, 4, 5, 8, 9, 12, 13},
		api.OpBvs:  {2, 3, 6, 7, 10, 11, 14, 15},
		api.OpBcc:  {0, 2, 4, 6, 8, 10, 12, 14},
		api.OpBcs:  {1, 3, 5, 7, 9, 11, 13, 15},
		api.OpBge:  {0, 1, 4, 5, 10, 11, 14, 15},
		api.OpBlt:  {2, 3, 6, 7, 8, 9, 12, 13},
		api.OpBgt:  {0, 1, 10, 11},
		api.OpBle:  {2, 3, 4, 5, 6, 7, 8, 9, 12, 13, 14, 15},
		api.OpBhi:  {0, 2, 8, 10},
		api.OpBlos: {1, 3, 4, 5, 6, 7, 9, 11, 12, 13, 14, 15},
	}
}

func hasInt(l []int, k int) bool {
	for _, x := range l {
		if x == k {
			return true
		}
	}
	return false
}

func TestTaken(t *testing.T) {
	taken := takenFor()
	for _, op := range branches {
		for _, flags := range allFlags() {
			want := hasInt(taken[op], modulo(flags, 16))
			if got := alu.Taken(op, flags); got != want {
				t.Errorf("Taken(%d, %d) = %v", op, flags, got)
			}
		}
	}
}

func TestOtherOperationsAreNotTaken(t *testing.T) {
	for _, op := range othersThan(branches) {
		for _, flags := range allFlags() {
			if alu.Taken(op, flags) {
				t.Errorf("Taken(%d, %d)", op, flags)
			}
		}
	}
}
