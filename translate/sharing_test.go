package translate_test

import (
	"slices"
	"testing"

	"emulator/api"
	"emulator/translate"
)

// The pointers of a list are those to one number of each of its elements, and to those of the lists in them, also of what lies behind the ends of the lists. Lists share memory if they have a pointer in common.

func wordPointers(l []int) []*int {
	var all []*int
	for i := range l[:cap(l)] {
		all = append(all, &l[:cap(l)][i])
	}
	return all
}

func codePointers(l []api.Micro) []*int {
	var all []*int
	for i := range l[:cap(l)] {
		x := &l[:cap(l)][i]
		all = append(all, &x.At)
		all = append(all, wordPointers(x.Words)...)
	}
	return all
}

func blockPointers(l []api.Block) []*int {
	var all []*int
	for i := range l[:cap(l)] {
		b := &l[:cap(l)][i]
		all = append(all, &b.Start)
		all = append(all, codePointers(b.Code)...)
	}
	return all
}

// valuesAt returns what stands at pointers.
func valuesAt(l []*int) []int {
	var all []int
	for _, p := range l {
		all = append(all, *p)
	}
	return all
}

// roomy returns a copy of a list, behind whose end lie others of its elements.
func roomy[E any](l []E) []E {
	room := slices.Concat(l, l, l)
	return room[:len(l):min(cap(room), len(l)+3)]
}

// roomyBlock returns a copy of a block whose lists are roomy.
func roomyBlock(b api.Block) api.Block {
	b.Code = slices.Clone(b.Code)
	for k, x := range b.Code {
		b.Code[k].Words = roomy(x.Words)
	}
	b.Code = roomy(b.Code)
	return b
}

// roomyCache returns a copy of a cache whose lists are roomy.
func roomyCache(c api.Cache) api.Cache {
	c.Blocks = slices.Clone(c.Blocks)
	for k, b := range c.Blocks {
		c.Blocks[k] = roomyBlock(b)
	}
	c.Blocks = roomy(c.Blocks)
	return c
}

// arguments are what the calls are given.
type arguments struct {
	m api.Machine
	c api.Cache
	b api.Block
}

// pointers returns the pointers of all lists of the arguments.
func (a arguments) pointers() []*int {
	return slices.Concat(wordPointers(a.m.Mem), wordPointers(a.m.Bad), blockPointers(a.c.Blocks), codePointers(a.b.Code))
}

// results calls each function with the arguments, and returns the pointers of its results by the names of the functions.
func (a arguments) results() map[string][][]*int {
	l := map[string][][]*int{}
	l["Drop"] = [][]*int{blockPointers(translate.Drop(a.m, a.c).Blocks)}
	l["Add"] = [][]*int{blockPointers(translate.Add(a.c, a.b).Blocks), blockPointers(translate.Add(a.c, api.Block{}).Blocks)}
	for at := range 256 {
		x, _ := translate.Find(a.c, at)
		l["Find"] = append(l["Find"], wordPointers(x.Words))
		l["Block"] = append(l["Block"], codePointers(translate.Block(a.m, at).Code))
	}
	return l
}

// given returns arguments of all kinds.
func given() []arguments {
	m, c := full()
	lots := api.Cache{}
	for k := range maxBlocks {
		lots.Blocks = append(lots.Blocks, nops(2*k+100, 1))
	}
	var all []arguments
	for _, c := range []api.Cache{{}, cacheOf(), c, lots, cacheOf(api.Block{Start: 4}, api.Block{Start: 6, Code: []api.Micro{{At: 9}}})} {
		for _, start := range []int{0, 2, 4, 110, 111, 254} {
			b := block(start, []int{movii, 5, 6}, []int{clc}, []int{br})
			all = append(all, arguments{m, c, b}, arguments{machineOf(256), c, b}, arguments{m, c, api.Block{}})
		}
	}
	for i, a := range all {
		all[i] = arguments{a.m, roomyCache(a.c), roomyBlock(a.b)}
		all[i].m.Mem, all[i].m.Bad = roomy(a.m.Mem), roomy(a.m.Bad)
	}
	// Lists of the arguments share memory with one another.
	x := micro(8, movi, 5)
	b := api.Block{Start: 8, Code: []api.Micro{x, x, x}}
	c = cacheOf(b, b, b)
	m = with(machineOf(256), 8, movi, 5)
	all = append(all, arguments{m, c, b}, arguments{m, cacheOf(b), b}, arguments{m, api.Cache{}, b})
	x.Words = m.Mem[4:6]
	b = api.Block{Start: 8, Code: []api.Micro{x, x, x}}
	return append(all, arguments{m, cacheOf(b, b), b}, arguments{m, api.Cache{}, b})
}

func TestResultsAreNewMemory(t *testing.T) {
	n := 0
	for _, a := range given() {
		old := map[*int]bool{}
		for _, p := range a.pointers() {
			old[p] = true
		}
		for name, l := range a.results() {
			for _, result := range l {
				seen := map[*int]bool{}
				for _, p := range result {
					if old[p] {
						t.Fatalf("%s: the result shares memory with an argument", name)
					}
					if seen[p] {
						t.Fatalf("%s: two lists of the result share memory", name)
					}
					seen[p] = true
					n++
				}
			}
		}
	}
	if n < 10000 {
		t.Errorf("only %d numbers were looked at", n)
	}
}

func TestArgumentsStay(t *testing.T) {
	for _, a := range given() {
		pointers := a.pointers()
		values, cache, added := valuesAt(pointers), kept(a.c), kept(cacheOf(a.b))
		a.results()
		translate.Right(a.m, a.c)
		for _, b := range a.c.Blocks {
			for _, x := range b.Code {
				translate.Fresh(a.m, x)
			}
		}
		if !slices.Equal(valuesAt(pointers), values) || !sameCache(a.c, cache) || !sameCache(cacheOf(a.b), added) {
			t.Fatal("a call changes lists that it was given")
		}
	}
}

// What is done with a result later does not matter to the same call again.
func TestCallsAreRepeatable(t *testing.T) {
	m, c := full()
	for at := 0; at < 256; at += 2 {
		b := translate.Block(m, at)
		want := kept(cacheOf(b)).Blocks[0]
		for _, p := range codePointers(b.Code) {
			*p += 1000
		}
		checkBlock(t, m, at, want)
		x, ok := translate.Find(c, at)
		found := x
		found.Words = slices.Clone(x.Words)
		for _, p := range wordPointers(x.Words) {
			*p += 1000
		}
		checkFind(t, c, at, found, ok)
		d, e := translate.Drop(m, c), translate.Add(c, want)
		dropped, added := kept(d), kept(e)
		for _, p := range append(blockPointers(d.Blocks), blockPointers(e.Blocks)...) {
			*p += 1000
		}
		if !sameCache(translate.Drop(m, c), dropped) {
			t.Fatal("the same Drop again returns another cache")
		}
		checkAdd(t, c, want, added)
	}
}

// Of machines and caches that are not valid it is promised that all calls end without a panic.
func TestInvalidArguments(t *testing.T) {
	machines := []api.Machine{{}, {Mem: []int{nop}}, {Mem: repeated(nop, 33)}, {Mem: repeated(nop, 40000)}, {Bad: []int{0, 2, 4}}, {Mem: []int{}, Bad: []int{}}}
	for _, n := range append([]int{0, 1, 3, 62, 63, 64, 65, 66, 255, 256}, farInts...) {
		machines = append(machines, spoilt(machineOf(256), n))
		for _, bad := range [][]int{{n, 4, n}, {100, 50, 25, n, 12, 6, 3, 1}, {7, 5, n, 3}} {
			m := machineOf(256, nop, n, movi, n, nop, n, n, n)
			m.Bad = bad
			machines = append(machines, m)
			m.Mem = m.Mem[:35]
			machines = append(machines, m)
		}
	}
	for _, m := range machines {
		var c api.Cache
		for _, n := range append([]int{0, 2, 4, 6, 8, 14, 60, 62, 64, 66, 68, 70, 254}, farInts...) {
			b := translate.Block(m, n)
			c = translate.Add(c, b)
			c.Blocks = c.Blocks[:min(len(c.Blocks), 80)]
			for _, words := range [][]int{nil, {n}, {nop}, {movi, n}, repeated(nop, 30)} {
				x := api.Micro{At: n, Words: words, Inst: api.Inst{Op: api.Op(n), Reg: n, Num: n}}
				translate.Fresh(m, x)
				c.Blocks = append(c.Blocks, api.Block{Start: n, Code: []api.Micro{x}}, api.Block{Start: -n, Code: []api.Micro{x, x}})
			}
			translate.Right(m, c)
			translate.Find(c, n)
			translate.Drop(m, c)
		}
	}
}
