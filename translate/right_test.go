package translate_test

import (
	"math"
	"reflect"
	"slices"
	"testing"

	"emulator/api"
	"emulator/translate"
)

// P21.3: Right.

// checkRight checks whether a cache is valid for a machine.
func checkRight(t *testing.T, m api.Machine, c api.Cache, want bool) {
	t.Helper()
	if got := translate.Right(m, c); got != want {
		t.Fatalf("%v: %+v with wrong parity at %v", got, c, m.Bad)
	}
}

func TestRightCounts(t *testing.T) {
	m := machineOf(256)
	for _, blocks := range [][]api.Block{nil, {}, {nops(2, 3)}} {
		for _, n := range slices.Concat([]int{0, 1, 2, 64, 65}, farInts) {
			want := n >= 0
			checkRight(t, m, api.Cache{Blocks: blocks, Made: n}, want)
			checkRight(t, m, api.Cache{Blocks: blocks, Used: n}, want)
			checkRight(t, m, api.Cache{Blocks: blocks, Dropped: n}, want)
			checkRight(t, m, api.Cache{Blocks: blocks, Made: n, Used: n, Dropped: n}, want)
		}
		for i := range 8 {
			c := api.Cache{Blocks: blocks, Made: 1 - i&1*2, Used: 1 - i&2, Dropped: 1 - i&4/2}
			checkRight(t, m, c, i == 0)
		}
	}
}

func TestRightNumberOfBlocks(t *testing.T) {
	m := machineOf(256)
	for n := range 129 {
		var c, reversed api.Cache
		for k := range n {
			c.Blocks = append(c.Blocks, nops(2*k, 1))
			reversed.Blocks = append(reversed.Blocks, nops(2*(n-1-k), 1))
		}
		checkRight(t, m, c, n <= maxBlocks)
		checkRight(t, m, reversed, n <= 1)
	}
}

// Starts ascend; blocks may overlap.
func TestRightOrder(t *testing.T) {
	m := machineOf(256)
	checkRight(t, m, cacheOf(nops(0, 3), nops(2, 3), nops(4, 3)), true)
	checkRight(t, m, cacheOf(nops(0, 3), nops(2, 2), nops(4, 1)), true)
	checkRight(t, m, cacheOf(nops(0, 16), nops(30, 16), nops(60, 2), nops(64, 16)), true)
	b := []api.Block{nops(0, 3), nops(2, 3), nops(2, 3), nops(2, 2), nops(64, 16), nops(254, 1)}
	for i := range b {
		for j := range b {
			checkRight(t, m, cacheOf(b[i], b[j]), b[i].Start < b[j].Start)
			for k := range b {
				checkRight(t, m, cacheOf(b[i], b[j], b[k]), b[i].Start < b[j].Start && b[j].Start < b[k].Start)
			}
		}
	}
}

// A block has from 1 to 16 instructions, all in its memory block.
func TestRightNumberOfInstructions(t *testing.T) {
	m := machineOf(256)
	for start := 0; start < 256; start += 2 {
		for n := range 40 {
			want := n >= 1 && n <= maxCode && start%64+2*n <= 64
			b := nops(start, n)
			if start+2*n > 256 {
				want = false
			}
			checkRight(t, m, cacheOf(b), want)
			if start > 0 {
				checkRight(t, m, cacheOf(nops(start-2, 1), b), want)
			}
			if start < 254 {
				checkRight(t, m, cacheOf(b, nops(254, 1)), want)
			}
		}
	}
	// The last instruction stands in two memory blocks.
	m = with(machineOf(256), 60, nop, movi, 3, nop, nop, movii)
	checkRight(t, m, cacheOf(block(60, []int{nop})), true)
	checkRight(t, m, cacheOf(block(60, []int{nop}, []int{movi, 3})), false)
	checkRight(t, m, cacheOf(block(62, []int{movi, 3})), false)
	for at := 54; at <= 64; at += 2 {
		m = with(machineOf(256), at, movii, 3, 4)
		checkRight(t, m, cacheOf(block(at, []int{movii, 3, 4})), at <= 58 || at == 64)
		checkRight(t, m, cacheOf(block(at-2, []int{nop}, []int{movii, 3, 4})), at <= 58)
		m = with(machineOf(256), at, movi, 3)
		checkRight(t, m, cacheOf(block(at, []int{movi, 3})), at <= 60 || at == 64)
	}
}

// The instructions follow one another from Start on.
func TestRightAddresses(t *testing.T) {
	m := machineOf(256)
	for start := -2; start < 70; start++ {
		b := nops(2, 3)
		b.Start = start
		checkRight(t, m, cacheOf(b), start == 2)
	}
	for _, start := range farInts {
		b := nops(2, 3)
		b.Start = start
		checkRight(t, m, cacheOf(b), false)
		checkRight(t, m, cacheOf(nops(0, 1), b), false)
		b = nops(2, 1)
		b.Start, b.Code[0].At = start, start
		checkRight(t, m, cacheOf(b), false)
	}
	for k := range 4 {
		for at := -2; at < 70; at++ {
			b := nops(2, 4)
			b.Code[k].At = at
			checkRight(t, m, cacheOf(b), at == 2+2*k)
		}
	}
	// With instructions of several lengths, each of which could also stand at the next address.
	m = machineOf(256, movi, movi, movi, movi, movi, movi, movi)
	checkRight(t, m, cacheOf(block(0, []int{movi, movi}, []int{movi, movi}, []int{movi, movi})), true)
	for _, l := range [][]int{{0, 2, 4}, {0, 4, 6}, {0, 2, 8}, {0, 6, 10}, {0, 0, 4}, {4, 0, 8}, {2, 4, 8}, {0, 8, 4}} {
		var code []api.Micro
		for _, at := range l {
			code = append(code, micro(at, movi, movi))
		}
		checkRight(t, m, cacheOf(api.Block{Start: l[0], Code: code}), false)
	}
}

// Only the last instruction may end the block; it need not.
func TestRightEnds(t *testing.T) {
	for _, w := range []int{br, halt, 0o000112, 0o000207, 0o077103, 0o104401, 0o010007, 0o006600} {
		for n := 1; n <= maxCode; n++ {
			for last := range maxCode {
				words := repeated(nop, n)
				if last < n {
					words[last] = w
				}
				m := machineOf(256, words...)
				checkRight(t, m, cacheOf(block(0, ones(words...)...)), last >= n-1)
			}
		}
	}
	m := machineOf(256, clc, 0o000137, 6, clc, 0o000137, 6)
	checkRight(t, m, cacheOf(block(0, []int{clc}, []int{0o000137, 6})), true)
	checkRight(t, m, cacheOf(block(0, []int{clc}, []int{0o000137, 6}, []int{clc})), false)
	checkRight(t, m, cacheOf(block(0, []int{clc}, []int{0o000137, 6}), block(6, []int{clc}, []int{0o000137, 6})), true)
	// A block may end earlier than the one that is translated.
	m = machineOf(256, nop, movi, 3, nop, br)
	for n := 1; n <= 4; n++ {
		b := translate.Block(m, 0)
		b.Code = b.Code[:n]
		checkRight(t, m, cacheOf(b), true)
	}
}

// full returns a machine and a valid cache for it of blocks of all lengths.
func full() (api.Machine, api.Cache) {
	m := machineOf(256, movi, 3, movii, 5, 6, clc, br, clv, movi, none, halt)
	m = with(m, 64, none, nop, clc, movii, 1, 2, 5)
	m = spoilt(m, 26, 64, 90, 200)
	return m, cacheOf(
		block(0, []int{movi, 3}, []int{movii, 5, 6}, []int{clc}, []int{br}), block(4, []int{movii, 5, 6}), block(14, []int{clv}, []int{movi, none}, []int{halt}), nops(22, 2),
		block(66, []int{nop}, []int{clc}, []int{movii, 1, 2}, []int{5}), block(70, []int{movii, 1, 2}), nops(92, 16), nops(192, 4), nops(202, 16), nops(254, 1),
	)
}

// Every number of a block counts.
func TestRightEveryNumber(t *testing.T) {
	m, c := full()
	checkRight(t, m, c, true)
	eachNumber(reflect.ValueOf(&c.Blocks).Elem(), "", func(name string, v reflect.Value) {
		undo := change(v)
		checkRight(t, m, c, false)
		undo()
	})
	checkRight(t, m, c, true)
	// The counts may change.
	c.Made, c.Used, c.Dropped = 0, 7, math.MaxInt
	checkRight(t, m, c, true)
}

// Each word of each instruction stands in memory, with right parity.
func TestRightEveryWordOfMemory(t *testing.T) {
	m, c := full()
	for at := 0; at < 256; at += 2 {
		within := false
		for _, b := range c.Blocks {
			for _, x := range b.Code {
				within = within || at >= x.At && at < x.At+2*len(x.Words)
			}
		}
		checkRight(t, with(m, at, m.Mem[at/2]^0o100), c, !within)
		if !slices.Contains(m.Bad, at) {
			checkRight(t, spoilt(m, append(m.Bad, at)...), c, !within)
		}
	}
}

// A block that is not valid makes a cache of others invalid, wherever it is.
func TestRightEveryBlock(t *testing.T) {
	m, c := full()
	for k := range c.Blocks {
		for n := range 4 {
			x := kept(c)
			code := x.Blocks[k].Code
			switch n {
			case 0:
				x.Blocks[k].Code = nil
			case 1:
				x.Blocks[k].Code = append(code, micro(code[len(code)-1].At, nop))
			case 2:
				x.Blocks[k] = nops(x.Blocks[k].Start, 17)
			case 3:
				code[len(code)-1].Words = code[len(code)-1].Words[:0]
			}
			checkRight(t, m, x, false)
		}
		x := kept(c)
		x.Blocks = slices.Delete(x.Blocks, k, k+1)
		checkRight(t, m, x, true)
	}
}
