package translate_test

import (
	"math"
	"reflect"
	"slices"
	"testing"

	"emulator/api"
	"emulator/inst"
	"emulator/memory"
)

// Words of instructions. nop, clc, halt and br have one word, movi (mov #x, r1) two, and movii (mov #x, @#y) three. A block ends with halt and with br.
const (
	nop   = 0o000240
	clc   = 0o000241
	clv   = 0o000242
	halt  = 0
	br    = 0o000777
	movi  = 0o012701
	movii = 0o012737
	none  = 7 // no instruction
)

// The limits.
const (
	maxCode   = 16
	maxBlocks = 64
)

// farInts has integers far from all addresses, many of which become an address when they are cut to fewer bits, or when a few bytes are added.
var farInts = []int{math.MinInt, math.MinInt + 1, math.MinInt + 2, math.MinInt + 64, -1 << 62, -1 << 40, -1 << 32, -1<<32 + 2, -1 << 31, -65536, -65534, -32768, -256, -64, -62, -4, -3, -2, -1,
	65536, 65538, 1 << 31, 1<<31 + 2, 1 << 32, 1<<32 + 2, 1 << 40, 1 << 62, 1<<62 + 2, 1<<63 - 64, 1<<63 - 4, math.MaxInt - 2, math.MaxInt - 1, math.MaxInt}

// numbers returns a function that returns numbers below a limit, which look random and are the same for the same seed.
func numbers(seed int) func(limit int) int {
	state := uint64(seed)*2862933555777941757 + 3037000493
	return func(limit int) int {
		state = state*6364136223846793005 + 1442695040888963407
		return int(state>>33) % limit
	}
}

// machineOf returns a machine with a memory of a size that has the words from 0 on, and nops behind them.
func machineOf(size int, words ...int) api.Machine {
	return api.Machine{Mem: append(slices.Clone(words), repeated(nop, size/2-len(words))...)}
}

// repeated returns n words that are all w.
func repeated(w, n int) []int {
	return slices.Repeat([]int{w}, n)
}

// with returns a machine in whose memory words stand from an address on.
func with(m api.Machine, at int, words ...int) api.Machine {
	m.Mem = slices.Clone(m.Mem)
	if copy(m.Mem[at/2:], words) != len(words) {
		panic("words of the test are beyond memory")
	}
	return m
}

// spoilt returns a machine in which the words at the addresses, and no others, have wrong parity.
func spoilt(m api.Machine, addresses ...int) api.Machine {
	m.Bad = slices.Clone(addresses)
	slices.Sort(m.Bad)
	return m
}

// micro returns the translated instruction with the words at an address.
func micro(at int, words ...int) api.Micro {
	i, n := inst.Decode(words)
	if n != len(words) {
		panic("words of the test are no instruction")
	}
	return api.Micro{At: at, Words: slices.Clone(words), Inst: i}
}

// block returns the block of instructions with these words that follow one another from an address on.
func block(start int, code ...[]int) api.Block {
	b := api.Block{Start: start}
	for at := start; len(code) > 0; code = code[1:] {
		b.Code = append(b.Code, micro(at, code[0]...))
		at += 2 * len(code[0])
	}
	return b
}

// ones returns lists of one word each.
func ones(words ...int) [][]int {
	var l [][]int
	for _, w := range words {
		l = append(l, []int{w})
	}
	return l
}

// nops returns a block of n nops.
func nops(start, n int) api.Block {
	return block(start, ones(repeated(nop, n)...)...)
}

// cacheOf returns a cache of blocks with counts that all differ.
func cacheOf(blocks ...api.Block) api.Cache {
	return api.Cache{Blocks: blocks, Made: 100, Used: 20, Dropped: 3}
}

// starts returns the addresses at which the blocks of a cache begin.
func starts(c api.Cache) []int {
	var l []int
	for _, b := range c.Blocks {
		l = append(l, b.Start)
	}
	return l
}

// sameMicro, sameBlock and sameCache report whether values are equal in all fields; an empty list is equal to nil.

func sameMicro(x, y api.Micro) bool {
	return x.At == y.At && slices.Equal(x.Words, y.Words) && x.Inst == y.Inst
}

func sameBlock(a, b api.Block) bool {
	return a.Start == b.Start && slices.EqualFunc(a.Code, b.Code, sameMicro)
}

func sameCache(c, d api.Cache) bool {
	return slices.EqualFunc(c.Blocks, d.Blocks, sameBlock) && c.Made == d.Made && c.Used == d.Used && c.Dropped == d.Dropped
}

// kept returns a copy of a cache.
func kept(c api.Cache) api.Cache {
	c.Blocks = slices.Clone(c.Blocks)
	for i := range c.Blocks {
		c.Blocks[i].Code = slices.Clone(c.Blocks[i].Code)
		for j, x := range c.Blocks[i].Code {
			c.Blocks[i].Code[j].Words = slices.Clone(x.Words)
		}
	}
	return c
}

// eachNumber calls a function with all numbers and conditions of a value, which the function may change.
func eachNumber(v reflect.Value, name string, do func(name string, v reflect.Value)) {
	switch v.Kind() {
	case reflect.Struct:
		for i := range v.NumField() {
			eachNumber(v.Field(i), name+"."+v.Type().Field(i).Name, do)
		}
	case reflect.Slice, reflect.Array:
		for i := range v.Len() {
			eachNumber(v.Index(i), name, do)
		}
	default:
		do(name, v)
	}
}

// change changes a number or a condition, and returns a function that undoes the change.
func change(v reflect.Value) func() {
	if v.Kind() == reflect.Bool {
		v.SetBool(!v.Bool())
		return func() { v.SetBool(!v.Bool()) }
	}
	v.SetInt(v.Int() + 1)
	return func() { v.SetInt(v.Int() - 1) }
}

func TestHelpers(t *testing.T) {
	if api.MaxCode != maxCode || api.MaxBlocks != maxBlocks || api.BlockBytes != 64 {
		t.Error("the limits of the test are wrong")
	}
	for w, want := range map[int]int{nop: 1, clc: 1, clv: 1, halt: 1, br: 1, movi: 2, movii: 3, none: 0} {
		i, n := inst.Decode([]int{w, 1, 2})
		if ends := w == halt || w == br; n != want || inst.Ends(i) != ends {
			t.Errorf("%#o: %+v, %d words", w, i, n)
		}
	}
	m := with(machineOf(256, br, 5), 252, clc, clv)
	if len(m.Mem) != 128 || m.Mem[0] != br || m.Mem[1] != 5 || m.Mem[2] != nop || m.Mem[125] != nop || m.Mem[126] != clc || m.Mem[127] != clv || !memory.Right(m.Mem, m.Bad) {
		t.Errorf("%v", m.Mem)
	}
	if x := spoilt(m, 4, 2); !slices.Equal(x.Bad, []int{2, 4}) || len(m.Bad) != 0 {
		t.Errorf("%v", x.Bad)
	}
	b := block(6, []int{movi, 9}, []int{halt})
	want := api.Block{Start: 6, Code: []api.Micro{
		{At: 6, Words: []int{movi, 9}, Inst: api.Inst{Op: api.OpMov, Src: api.Operand{Mode: 2, Reg: 7, Ext: 9}, Dst: api.Operand{Reg: 1}}},
		{At: 10, Words: []int{halt}, Inst: api.Inst{Op: api.OpHalt}},
	}}
	if !reflect.DeepEqual(b, want) || !reflect.DeepEqual(nops(2, 1), block(2, []int{nop})) {
		t.Errorf("%+v", b)
	}
	empty := api.Cache{Blocks: []api.Block{{Code: []api.Micro{{Words: []int{}}}}}}
	if !sameCache(empty, api.Cache{Blocks: []api.Block{{Code: []api.Micro{{}}}}}) || !sameBlock(api.Block{Code: []api.Micro{}}, api.Block{}) {
		t.Error("empty lists differ from nil")
	}
}

// Every change of a number of a cache is seen by sameCache, and does not change the copy.
func TestSame(t *testing.T) {
	full := func() api.Cache { return cacheOf(block(6, []int{movii, 9, 8}, []int{halt}), nops(20, 2)) }
	c := full()
	fields := 0
	eachNumber(reflect.ValueOf(&c).Elem(), "", func(name string, v reflect.Value) {
		fields++
		before := kept(c)
		undo := change(v)
		if sameCache(c, before) || sameCache(before, c) {
			t.Errorf("a change of %s is not seen", name)
		}
		if !sameCache(before, full()) {
			t.Errorf("a change of %s changes the copy", name)
		}
		undo()
	})
	// Three counts, the Starts of two blocks, At and ten numbers of Inst of four instructions, and six words.
	if fields != 3+2+4*11+6 {
		t.Errorf("a cache has %d numbers", fields)
	}
	for _, shorter := range []func(c *api.Cache){
		func(c *api.Cache) { c.Blocks = c.Blocks[:1] },
		func(c *api.Cache) { c.Blocks[1].Code = c.Blocks[1].Code[:1] },
		func(c *api.Cache) { c.Blocks[0].Code[0].Words = c.Blocks[0].Code[0].Words[:2] },
	} {
		c, before := full(), full()
		shorter(&c)
		if sameCache(c, before) || sameCache(before, c) {
			t.Error("a shorter list is not seen")
		}
	}
}
