package translate_test

import (
	"math"
	"slices"
	"testing"

	"emulator/api"
	"emulator/translate"
)

// checkFind checks what is found at an address.
func checkFind(t *testing.T, c api.Cache, phys int, want api.Micro, ok bool) {
	t.Helper()
	if x, found := translate.Find(c, phys); !sameMicro(x, want) || found != ok {
		t.Fatalf("at %d: %+v, %v, want %+v, %v", phys, x, found, want, ok)
	}
}

// checkDrop checks the cache that remains. The blocks with the indexes in dropped are those that are missing in it.
func checkDrop(t *testing.T, m api.Machine, c api.Cache, dropped ...int) {
	t.Helper()
	want := c
	want.Blocks = nil
	for k, b := range c.Blocks {
		if !slices.Contains(dropped, k) {
			want.Blocks = append(want.Blocks, b)
		}
	}
	want.Dropped += len(dropped)
	if d := translate.Drop(m, c); !sameCache(d, want) {
		t.Fatalf("%+v, want %+v", d, want)
	}
}

// checkAdd checks a cache with another block.
func checkAdd(t *testing.T, c api.Cache, b api.Block, want api.Cache) {
	t.Helper()
	if d := translate.Add(c, b); !sameCache(d, want) {
		t.Fatalf("%+v, want %+v", d, want)
	}
}

// P21.4: Find.

func TestFind(t *testing.T) {
	_, c := full()
	for phys := -10; phys < 270; phys++ {
		var want api.Micro
		found := false
		for _, b := range slices.Backward(c.Blocks) {
			for _, x := range b.Code {
				if x.At == phys {
					want, found = x, true
				}
			}
		}
		checkFind(t, c, phys, want, found)
	}
	for _, phys := range farInts {
		checkFind(t, c, phys, api.Micro{}, false)
	}
	checkFind(t, c, 4, micro(4, movii, 5, 6), true)
	checkFind(t, c, 6, api.Micro{}, false)
	checkFind(t, c, 12, micro(12, br), true)
	checkFind(t, c, 254, micro(254, nop), true)
}

// Of several instructions at an address the one in the first block is found.
func TestFindFirst(t *testing.T) {
	a, b, d := block(0, []int{nop}, []int{clc}), block(2, []int{clv}), block(2, []int{movi, 5}, []int{nop})
	checkFind(t, cacheOf(a, b, d), 2, micro(2, clc), true)
	checkFind(t, cacheOf(b, a, d), 2, micro(2, clv), true)
	checkFind(t, cacheOf(d, b, a), 2, micro(2, movi, 5), true)
	checkFind(t, cacheOf(d, b, a), 6, micro(6, nop), true)
	checkFind(t, cacheOf(d, b, a), 0, micro(0, nop), true)
	checkFind(t, cacheOf(api.Block{Start: 2}, d), 2, micro(2, movi, 5), true)
	checkFind(t, cacheOf(api.Block{Start: 2}), 2, api.Micro{}, false)
}

// Find is defined for all caches: those with more blocks or longer ones, and those whose addresses are of all kinds.
func TestFindInAnyCache(t *testing.T) {
	checkFind(t, api.Cache{}, 0, api.Micro{}, false)
	checkFind(t, cacheOf(), 0, api.Micro{}, false)
	for _, at := range append([]int{0, 1, 2, 63, 64, 65535}, farInts...) {
		x := api.Micro{At: at, Words: []int{-1, at, 3, 4}, Inst: api.Inst{Op: api.Op(at), Num: at}}
		checkFind(t, cacheOf(nops(4, 3), api.Block{Start: 7, Code: []api.Micro{{At: 6}, x, {At: at}}}), at, x, true)
		checkFind(t, cacheOf(nops(4, 3), api.Block{Start: at, Code: []api.Micro{{At: at ^ 8}}}), at, api.Micro{}, false)
		checkFind(t, cacheOf(api.Block{Code: []api.Micro{{At: at}}}, api.Block{Code: []api.Micro{x}}), at, api.Micro{At: at}, true)
	}
	var c api.Cache
	for k := range 200 {
		c.Blocks = append(c.Blocks, nops(100*(300-k), 50))
	}
	for _, phys := range []int{10100, 10198, 30000, 30098, 20002} {
		checkFind(t, c, phys, micro(phys, nop), true)
	}
	checkFind(t, c, 10099, api.Micro{}, false)
	checkFind(t, c, 30100, api.Micro{}, false)
}

// P21.5: Drop.

func TestDrop(t *testing.T) {
	m, c := full()
	checkDrop(t, m, c)
	for at := 0; at < 256; at += 2 {
		// The blocks that have the word at this address.
		var l []int
		for k, b := range c.Blocks {
			last := b.Code[len(b.Code)-1]
			if at >= b.Start && at < last.At+2*len(last.Words) {
				l = append(l, k)
			}
		}
		checkDrop(t, with(m, at, m.Mem[at/2]^0o100), c, l...)
		if !slices.Contains(m.Bad, at) {
			checkDrop(t, spoilt(m, append(m.Bad, at)...), c, l...)
		}
	}
	all := make([]int, len(c.Blocks))
	for k := range all {
		all[k] = k
	}
	checkDrop(t, machineOf(256, repeated(halt, 128)...), c, all...)
	checkDrop(t, spoilt(m, even(0, 254)...), c, all...)
	checkDrop(t, api.Machine{}, c, all...)
	checkDrop(t, m, api.Cache{})
	checkDrop(t, m, cacheOf())
}

// A block is dropped whichever of its instructions is not fresh; others remain, also behind it.
func TestDropOneOfMany(t *testing.T) {
	m := machineOf(256)
	for n := 1; n <= maxCode; n++ {
		for k := range n {
			changed := with(m, 64+2*k, clc)
			checkDrop(t, changed, cacheOf(nops(0, 16), nops(64, n), nops(66+2*n, 3)), 1)
			checkDrop(t, changed, cacheOf(nops(64, n)), 0)
			checkDrop(t, changed, cacheOf(nops(64, n), nops(64, n), nops(64+2*k, 1), nops(66+2*k, 1)), 0, 1, 2)
			// Several instructions are not fresh, but the block counts once.
			checkDrop(t, with(changed, 64, clv), cacheOf(nops(64, n), nops(128, 4)), 0)
		}
	}
}

// Drop is defined for all caches.
func TestDropFromAnyCache(t *testing.T) {
	m := with(machineOf(256), 62, movi, 3, none)
	// Order, Starts, ends and the number of instructions do not matter; blocks without instructions stay.
	loose := api.Block{Start: 7, Code: []api.Micro{micro(100, nop), micro(4, nop), micro(62, movi, 3), micro(4, nop)}}
	stale := api.Block{Start: 8, Code: []api.Micro{micro(100, nop), micro(4, nop), micro(62, movi, 4)}}
	odd := api.Block{Start: 8, Code: []api.Micro{micro(5, nop)}}
	empty := api.Block{Start: -3}
	nothing := api.Block{Start: 66, Code: []api.Micro{{At: 66, Words: []int{none}}}}
	wordless := api.Block{Start: 8, Code: []api.Micro{{At: 8}}}
	checkDrop(t, m, cacheOf(nops(80, 30), loose, nops(4, 2), empty, empty, nops(4, 2)))
	checkDrop(t, m, cacheOf(stale, loose, odd, empty, nothing, nops(4, 2), wordless), 0, 2, 4, 6)
	var c api.Cache
	var l []int
	for k := range 300 {
		c.Blocks = append(c.Blocks, nops(2*(k%128), 1))
		if k%128 >= 31 && k%128 <= 33 {
			l = append(l, k)
		}
	}
	checkDrop(t, m, c, l...)
	for _, n := range slices.Concat([]int{0, 1, 64}, farInts[:len(farInts)-3]) {
		c := cacheOf(nops(4, 2), odd, nops(6, 2))
		c.Made, c.Used, c.Dropped = n, n+1, n-n%7
		checkDrop(t, m, c, 1)
		x := api.Block{Start: n, Code: []api.Micro{{At: n, Words: []int{nop}, Inst: api.Inst{Op: api.OpCcc}}}}
		if n != 0 {
			checkDrop(t, m, cacheOf(nops(4, 2), x, nops(6, 2)), 1)
		}
	}
}

// P21.6: Add.

func TestAdd(t *testing.T) {
	a, b, d := nops(2, 3), nops(6, 1), nops(64, 2)
	made := func(n int, blocks ...api.Block) api.Cache {
		return api.Cache{Blocks: blocks, Made: 100 + n, Used: 20, Dropped: 3}
	}
	checkAdd(t, made(0), a, made(1, a))
	checkAdd(t, api.Cache{}, a, api.Cache{Blocks: []api.Block{a}, Made: 1})
	checkAdd(t, made(0, b, d), a, made(1, a, b, d))
	checkAdd(t, made(0, a, d), b, made(1, a, b, d))
	checkAdd(t, made(0, a, b), d, made(1, a, b, d))
	// In the place of the one with the same Start.
	other := block(6, []int{movi, 5}, []int{nop})
	checkAdd(t, made(0, b), other, made(1, other))
	checkAdd(t, made(0, a, b, d), other, made(1, a, other, d))
	checkAdd(t, made(0, b, d), other, made(1, other, d))
	checkAdd(t, made(0, a, b), other, made(1, a, other))
	checkAdd(t, made(0, a, b, d), b, made(1, a, b, d))
	// One without instructions changes nothing, whatever its Start is.
	for _, start := range []int{0, 2, 6, 7, 64, -1, math.MaxInt, math.MinInt} {
		checkAdd(t, made(0, a, b, d), api.Block{Start: start}, made(0, a, b, d))
		checkAdd(t, made(0, a, b, d), api.Block{Start: start, Code: []api.Micro{}}, made(0, a, b, d))
		checkAdd(t, api.Cache{}, api.Block{Start: start}, api.Cache{})
	}
}

// Whatever block is added, only its Start counts.
func TestAddAnyBlock(t *testing.T) {
	l := slices.Concat([]int{0, 1, 2, 3, 63, 64, 65, 65535}, farInts)
	slices.Sort(l)
	x := func(at int) api.Block {
		return api.Block{Start: at, Code: []api.Micro{{At: at ^ 5, Words: []int{at}, Inst: api.Inst{Op: api.Op(at)}}, {}}}
	}
	for i, first := range l {
		for j, second := range l[i+1:] {
			want := cacheOf(x(first), x(second))
			want.Made++
			checkAdd(t, cacheOf(x(first)), x(second), want)
			checkAdd(t, cacheOf(x(second)), x(first), want)
			for _, third := range l[i+1:][j+1:] {
				want := cacheOf(x(first), x(second), x(third))
				want.Made++
				checkAdd(t, cacheOf(x(first), x(third)), x(second), want)
			}
		}
	}
	long := nops(64, 3000)
	want := cacheOf(nops(2, 1), long)
	want.Made++
	checkAdd(t, cacheOf(nops(2, 1), nops(64, 5)), long, want)
}

// At most 64 blocks stay: the one with the least Start, other than that which is added, is removed.
func TestAddToFullCache(t *testing.T) {
	for n := 60; n <= maxBlocks; n++ {
		var c api.Cache
		for k := range n {
			c.Blocks = append(c.Blocks, nops(10+4*k, 2))
		}
		c.Made, c.Used, c.Dropped = 1000, 70, 6
		for start := 0; start < 20+4*n; start++ {
			b := block(start, []int{clc}, []int{br})
			want := kept(c)
			want.Made++
			k := slices.IndexFunc(c.Blocks, func(b api.Block) bool { return b.Start >= start })
			switch {
			case k >= 0 && c.Blocks[k].Start == start:
				want.Blocks[k] = b
			case k == 0 && n == maxBlocks:
				want.Blocks[0] = b
				want.Dropped++
			case n == maxBlocks:
				want.Blocks = append(want.Blocks, b)
				slices.SortFunc(want.Blocks, func(a, b api.Block) int { return a.Start - b.Start })
				want.Blocks = want.Blocks[1:]
				want.Dropped++
			default:
				want.Blocks = append(want.Blocks, b)
				slices.SortFunc(want.Blocks, func(a, b api.Block) int { return a.Start - b.Start })
			}
			checkAdd(t, c, b, want)
			checkAdd(t, c, api.Block{Start: start}, c)
		}
	}
}

// The order in which blocks are added does not matter, as long as none is removed.
func TestAddInAnyOrder(t *testing.T) {
	next := numbers(3)
	for range 50 {
		var l []int
		for at := range 128 {
			if len(l) < maxBlocks && next(2) == 0 {
				l = append(l, 2*at)
			}
		}
		var want api.Cache
		for _, at := range l {
			want.Blocks = append(want.Blocks, nops(at, 1))
		}
		want.Made = len(l)
		for i := range l {
			j := i + next(len(l)-i)
			l[i], l[j] = l[j], l[i]
		}
		var c api.Cache
		for _, at := range l {
			c = translate.Add(c, nops(at, 1))
		}
		if !sameCache(c, want) {
			t.Fatalf("%v added in the order %v", starts(c), l)
		}
	}
}
