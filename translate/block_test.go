package translate_test

import (
	"slices"
	"testing"

	"emulator/api"
	"emulator/inst"
	"emulator/translate"
)

// P21.1: Block.

// checkBlock checks the block from an address on.
func checkBlock(t *testing.T, m api.Machine, phys int, want api.Block) {
	t.Helper()
	if b := translate.Block(m, phys); !sameBlock(b, want) {
		t.Fatalf("the block from %d on is %+v, want %+v", phys, b, want)
	}
}

func TestExamples(t *testing.T) {
	m := machineOf(256, 0o012701, 5, 0o000240, 0o000777, 0o000240)
	checkBlock(t, m, 0, api.Block{Start: 0, Code: []api.Micro{
		{At: 0, Words: []int{0o012701, 5}, Inst: api.Inst{Op: api.OpMov, Src: api.Operand{Mode: 2, Reg: 7, Ext: 5}, Dst: api.Operand{Reg: 1}}},
		{At: 4, Words: []int{0o000240}, Inst: api.Inst{Op: api.OpCcc}},
		{At: 6, Words: []int{0o000777}, Inst: api.Inst{Op: api.OpBr, Num: -1}},
	}})
	checkBlock(t, m, 2, api.Block{Start: 2, Code: []api.Micro{{At: 2, Words: []int{5}, Inst: api.Inst{Op: api.OpRset}}}})
	m = spoilt(m, 4)
	checkBlock(t, m, 0, block(0, []int{0o012701, 5}))
	checkBlock(t, m, 4, api.Block{})
	checkBlock(t, with(machineOf(256), 62, 0o012701), 62, api.Block{})
}

// The number of instructions is at most 16, whether the next ones could be decoded, or the last one ends the block anyway.
func TestBlockOfManyInstructions(t *testing.T) {
	for at := 0; at < 64; at += 2 {
		for size := 1; size <= 20; size++ {
			m := machineOf(128, repeated(nop, 64)...)
			last := at + 2*size - 2
			if last < 64 {
				m = with(m, last, br)
			}
			n := min((64-at)/2, size, maxCode)
			b := translate.Block(m, at)
			if b.Start != at || len(b.Code) != n {
				t.Fatalf("from %d on, with br at %d: %d instructions, want %d", at, last, len(b.Code), n)
			}
			for k, x := range b.Code {
				want := micro(at+2*k, nop)
				if want.At == last {
					want = micro(last, br)
				}
				if !sameMicro(x, want) {
					t.Fatalf("from %d on, with br at %d: instruction %d is %+v", at, last, k, x)
				}
			}
		}
	}
	// Sixteen instructions of two words fill a memory block; of those with three words ten have room, and one of two words behind them.
	var l []int
	for range 16 {
		l = append(l, movi, none)
	}
	checkBlock(t, machineOf(256, l...), 0, block(0, slices.Repeat([][]int{{movi, none}}, 16)...))
	l = nil
	for range 12 {
		l = append(l, movii, none, nop)
	}
	want := slices.Repeat([][]int{{movii, none, nop}}, 10)
	checkBlock(t, machineOf(256, l...), 0, block(0, want...))
	checkBlock(t, with(machineOf(256, l...), 60, movi), 0, block(0, append(want, []int{movi, none})...))
	checkBlock(t, with(machineOf(256, l...), 60, nop, nop), 0, block(0, append(want, []int{nop}, []int{nop})...))
}

// These instructions end a block, whatever stands behind them.
func TestBlockEnds(t *testing.T) {
	for _, words := range [][]int{
		{0o000400}, {0o001000}, {0o001400}, {0o002377}, {0o002400}, {0o003000}, {0o003400}, {0o100000}, {0o100400}, {0o101000}, {0o101400}, {0o102000}, {0o102400}, {0o103000}, {0o103777},
		{0o000112}, {0o000137, 6}, {0o004737, 6}, {0o000207}, {0o077103}, {0o104000}, {0o104777}, {3}, {4}, {2}, {0}, {1}, {5}, {0o006600}, {0o006637, 6},
		{0o070602}, {0o070702}, {0o071602}, {0o072602}, {0o072727, 6}, {0o010007}, {0o112707, 6}, {0o060107}, {0o160107}, {0o074107}, {0o005007}, {0o105207}, {0o006007}, {0o000307}, {0o006707},
	} {
		m := with(machineOf(256, clc, clv), 4, words...)
		checkBlock(t, m, 0, block(0, []int{clc}, []int{clv}, words))
		checkBlock(t, m, 4, block(4, words))
		// Beside the end of the memory block.
		at := 64 - 2*len(words)
		m = with(machineOf(256), at-2, append([]int{clv}, words...)...)
		checkBlock(t, m, at-2, block(at-2, []int{clv}, words))
	}
}

// These instructions do not end a block.
func TestBlockGoesOn(t *testing.T) {
	for _, words := range [][]int{
		{0o010001}, {0o010700}, {0o020007}, {0o120007}, {0o030007}, {0o130007}, {0o005707}, {0o105707}, {0o010017}, {0o010047}, {0o010027, 6}, {0o010037, 6}, {0o016767, 6, 8}, {0o006507},
		{0o070507}, {0o071407}, {0o072507}, {0o074701}, {0o000240}, {0o000277}, {0o010006}, {0o062706, 2},
	} {
		m := with(with(machineOf(256, words...), 2*len(words), words...), 4*len(words), none)
		checkBlock(t, m, 0, block(0, words, words))
		checkBlock(t, with(m, 4*len(words), br), 0, block(0, words, words, []int{br}))
	}
}

// The words of every instruction are in the memory block of the first one, and in memory.
func TestBlockInMemoryBlock(t *testing.T) {
	for _, size := range []int{256, 320, 1024, 32704, 32768} {
		for _, base := range []int{0, 64, 128, size - 128, size - 64} {
			for _, words := range [][]int{{nop}, {movi, nop}, {movii, nop, nop}} {
				m := machineOf(size)
				for at := base + 56; at < base+64; at += 2 {
					m := with(m, at, words[:min(len(words), (size-at)/2)]...)
					want := api.Block{}
					if at+2*len(words) <= base+64 {
						rest := (base + 64 - at - 2*len(words)) / 2
						want = block(at, append([][]int{words}, ones(repeated(nop, rest)...)...)...)
					}
					checkBlock(t, m, at, want)
					// From the instruction before it on.
					want = block(at-2, append([][]int{{nop}}, wordsOf(want)...)...)
					checkBlock(t, m, at-2, want)
				}
			}
		}
	}
}

// wordsOf returns the words of the instructions of a block.
func wordsOf(b api.Block) [][]int {
	var l [][]int
	for _, x := range b.Code {
		l = append(l, x.Words)
	}
	return l
}

func TestBlockOfOtherAddresses(t *testing.T) {
	for _, size := range []int{256, 320, 32768} {
		m := machineOf(size)
		for at := -200; at < size+200; at++ {
			n := 0
			if at >= 0 && at < size && at%2 == 0 {
				n = min(maxCode, (64-at%64)/2)
			}
			b := translate.Block(m, at)
			if len(b.Code) != n || n > 0 && b.Start != at || n == 0 && b.Start != 0 {
				t.Fatalf("%d bytes: from %d on: %+v", size, at, b)
			}
		}
		for _, at := range farInts {
			checkBlock(t, m, at, api.Block{})
		}
		for _, at := range []int{size, size + 2, size + 64, 2 * size, 65536 + 2, 1<<32 + 2, 0x3E000, 0x40000} {
			checkBlock(t, m, at, api.Block{})
		}
	}
	checkBlock(t, api.Machine{}, 0, api.Block{})
}

// A block ends before the first word with wrong parity, and before an instruction that has it.
func TestBlockWithWrongParity(t *testing.T) {
	m := machineOf(256, none, movii, none, none, nop, movi, none, movii, none, none, nop, br, clc)
	code := [][]int{{movii, none, none}, {nop}, {movi, none}, {movii, none, none}, {nop}, {br}}
	for bad := 0; bad < 256; bad += 2 {
		n, at := 0, 2
		for n < len(code) && (bad < 2 || bad >= at+2*len(code[n])) {
			at += 2 * len(code[n])
			n++
		}
		want := block(2, code[:n]...)
		if n == 0 {
			want = api.Block{}
		}
		checkBlock(t, spoilt(m, bad), 2, want)
		checkBlock(t, spoilt(m, bad, 0), 2, want)
		checkBlock(t, spoilt(m, bad, 254), 2, want)
		for later := bad; later < 256 && bad >= 2; later += 6 {
			checkBlock(t, spoilt(m, later, bad, 200, 128), 2, want)
		}
	}
	// Every other word of the memory has wrong parity.
	var others []int
	for at := 0; at < 256; at += 2 {
		if at < 2 || at >= 24 {
			others = append(others, at)
		}
	}
	checkBlock(t, spoilt(m, others...), 2, block(2, code...))
	// In another memory block.
	for at := 0; at < 256; at += 64 {
		for bad := 0; bad < 256; bad += 2 {
			n := 16
			if bad >= at && bad < at+64 {
				n = min(n, (bad-at)/2)
			}
			if b := translate.Block(spoilt(machineOf(256), bad), at); len(b.Code) != n {
				t.Fatalf("from %d on with wrong parity at %d: %+v", at, bad, b)
			}
		}
	}
}

// Words that begin no instruction end a block, also those of an instruction that lacks words.
func TestBlockBeforeOtherWords(t *testing.T) {
	for _, w := range []int{none, 0o000100, 0o000107, 0o004007, 0o071102, 0o170000, 0o177777, 0o076000, 0o007000, 0o106400, 0o000210, 0o000237, 6} {
		checkBlock(t, machineOf(256, w), 0, api.Block{})
		checkBlock(t, machineOf(256, nop, w, nop), 0, nops(0, 1))
		checkBlock(t, machineOf(256, nop, w, nop), 2, api.Block{})
		checkBlock(t, machineOf(256, movi, w, clc, w), 0, block(0, []int{movi, w}, []int{clc}))
		checkBlock(t, machineOf(256, movi, movi, w, clc), 2, block(2, append([][]int{{movi, w}, {clc}}, ones(repeated(nop, 14)...)...)...))
	}
}

// wantBlock returns the block from an address on, by the words that are looked up one by one.
func wantBlock(m api.Machine, phys int) api.Block {
	b := api.Block{Start: phys}
	ended := phys < 0 || phys%2 != 0 || phys >= 2*len(m.Mem)
	for at := phys; !ended && len(b.Code) < 16; {
		var words []int
		for a := at; a/64 == phys/64 && !slices.Contains(m.Bad, a); a += 2 {
			words = append(words, m.Mem[a/2])
		}
		i, n := inst.Decode(words)
		if n == 0 {
			break
		}
		b.Code = append(b.Code, api.Micro{At: at, Words: words[:n], Inst: i})
		at += 2 * n
		ended = inst.Ends(i)
	}
	if len(b.Code) == 0 {
		return api.Block{}
	}
	return b
}

// Every word begins a block, at addresses with room for 1, 2, 3 and many words.
func TestBlockOfEveryWord(t *testing.T) {
	for w := range 65536 {
		for _, at := range []int{0, 64, 122, 124, 126} {
			m := with(machineOf(256), at, w, 3)
			checkBlock(t, m, at, wantBlock(m, at))
		}
		m := spoilt(with(machineOf(256), 70, clc, w, 0o177777, 1), 76)
		checkBlock(t, m, 70, wantBlock(m, 70))
		checkBlock(t, spoilt(m, 74), 70, wantBlock(spoilt(m, 74), 70))
	}
}

// randomWord returns a word, which often is an instruction that does not end a block.
func randomWord(next func(limit int) int) int {
	switch next(8) {
	case 0:
		return movi
	case 1:
		return movii
	case 2:
		return next(65536)
	case 3:
		return 0o010000 + next(0o050000)
	case 4:
		return 0o005000 + next(0o700)
	}
	return nop + next(16)
}

// randomMachine returns a machine of 256 bytes, in which few words have wrong parity.
func randomMachine(next func(limit int) int) api.Machine {
	m := machineOf(256)
	for i := range m.Mem {
		m.Mem[i] = randomWord(next)
	}
	for at := 0; at < 256; at += 2 {
		if next(30) == 0 {
			m.Bad = append(m.Bad, at)
		}
	}
	return m
}

func TestRandomBlocks(t *testing.T) {
	next := numbers(1)
	lengths := map[int]int{}
	for range 600 {
		m := randomMachine(next)
		for at := -2; at <= 258; at++ {
			b := wantBlock(m, at)
			checkBlock(t, m, at, b)
			lengths[len(b.Code)]++
		}
	}
	for n := range 17 {
		if lengths[n] < 30 {
			t.Errorf("%d blocks of %d instructions", lengths[n], n)
		}
	}
}

// Nothing but memory matters.
func TestBlockOfAnyMachine(t *testing.T) {
	next := numbers(2)
	for _, n := range append([]int{1, 2, 65535}, farInts...) {
		m := randomMachine(next)
		x := api.Machine{Mem: m.Mem, Bad: m.Bad, Halted: true, Waiting: true, PowerTrap: true, Now: n, Power: n}
		x.Cpu = api.Cpu{R: [6]int{n, n}, SP: [2]int{n, n}, PC: n, PSW: n}
		x.Mmu = api.Mmu{On: true, Status: n, Addr: n}
		x.Clock, x.Disk, x.Tape = api.Clock{Period: n, Left: n}, api.Disk{Left: n}, api.Tape{Left: n}
		x.Lines = make([]api.Line, 9)
		var c api.Cache
		for at := 0; at < 256; at += 2 {
			b := translate.Block(m, at)
			checkBlock(t, x, at, b)
			for _, i := range b.Code {
				if !translate.Fresh(x, i) {
					t.Fatalf("%+v is not fresh", i)
				}
			}
			if len(c.Blocks) < maxBlocks {
				c = translate.Add(c, b)
			}
		}
		if !translate.Right(x, c) || !sameCache(translate.Drop(x, c), c) {
			t.Fatal("the cache of another machine with the same memory is not valid")
		}
	}
}
