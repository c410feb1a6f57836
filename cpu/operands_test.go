package cpu_test

import (
	"testing"

	"emulator/api"
	"emulator/cpu"
	"emulator/inst"
)

// P19.4: Execute. The tests of this file compare all operations, with all operands, with the model.

// firstWords has the first words of all operations with operands, whose operands are registers of the number 0.
var (
	onTwo  = []int{0o010000, 0o020000, 0o030000, 0o040000, 0o050000, 0o060000, 0o110000, 0o120000, 0o130000, 0o140000, 0o150000, 0o160000}
	onOne  = []int{0o005000, 0o005100, 0o005200, 0o005300, 0o005400, 0o005500, 0o005600, 0o005700, 0o006000, 0o006100, 0o006200, 0o006300, 0o000300, 0o006700, 0o006500, 0o006600, 0o105000, 0o105100, 0o105200, 0o105300, 0o105400, 0o105500, 0o105600, 0o105700, 0o106000, 0o106100, 0o106200, 0o106300}
	onReg  = []int{0o070000, 0o071000, 0o072000, 0o074000}
	jumps  = []int{0o000100, 0o004000}
	onNone = []int{2, 3, 4, 5, 0o104000, 0o104401, 0o000240, 0o000277, 0o000405, 0o001005, 0o103405, 0, 1}
)

// meadow returns a machine of 1024 bytes whose registers and words are addresses, so that accesses succeed.
func meadow(next func(int) int, psw int) api.Machine {
	m := blank(1024, 1)
	for i := range m.Mem {
		m.Mem[i] = 2 * next(512)
	}
	for i := range m.Cpu.R {
		m.Cpu.R[i] = 4 + 2*next(500)
	}
	m.Cpu.SP = [2]int{4 + 2*next(500), 4 + 2*next(500)}
	m.Cpu.PC = 4 + 2*next(500)
	m.Cpu.PSW = psw
	return m
}

// extend returns the words of an instruction with a first word, whose extension words are in memory behind PC or are others.
func extend(m api.Machine, w int, next func(int) int) []int {
	l := []int{w}
	for len(l) < lengthOf(w) {
		at := m.Cpu.PC/2 + len(l)
		if at < len(m.Mem) && next(2) == 0 {
			l = append(l, m.Mem[at])
		} else {
			l = append(l, remainder(2*next(512)-200, 65536))
		}
	}
	return l
}

// statusWord returns a processor status word of modes, with any condition codes.
func statusWord(modes int, next func(int) int) int {
	return modes<<14 + next(8)<<5 + next(16)
}

// tally counts the traps of instructions that are executed.
type tally struct{ none, others int }

// all executes an instruction in a meadow of each pair of modes.
func (k *tally) all(t *testing.T, w int, next func(int) int) {
	t.Helper()
	for modes := range 4 {
		m := meadow(next, statusWord(modes, next))
		if _, trap := execute(t, m, extend(m, w, next)); trap == api.TrNone {
			k.none++
		} else {
			k.others++
		}
	}
}

func TestEveryPairOfOperands(t *testing.T) {
	next := numbers(1)
	for _, first := range onTwo {
		var k tally
		for src := range 64 {
			for dst := range 64 {
				m := meadow(next, statusWord(next(4), next))
				if _, trap := execute(t, m, extend(m, first+64*src+dst, next)); trap == api.TrNone {
					k.none++
				} else {
					k.others++
				}
			}
		}
		if k.none < 2*k.others || k.none+k.others != 4096 {
			t.Errorf("%o: %d without and %d with a trap", first, k.none, k.others)
		}
	}
}

func TestEveryOperand(t *testing.T) {
	next := numbers(2)
	for _, first := range onOne {
		var k tally
		for range 6 {
			for dst := range 64 {
				k.all(t, first+dst, next)
			}
		}
		if k.none < 2*k.others || k.none+k.others != 6*256 {
			t.Errorf("%o: %d without and %d with a trap", first, k.none, k.others)
		}
	}
	for _, first := range onReg {
		var k tally
		for n := range 8 {
			for field := range 64 {
				if w := first + 64*n + field; lengthOf(w) > 0 {
					k.all(t, w, next)
				}
			}
		}
		if k.none < 2*k.others || k.none+k.others < 1024 {
			t.Errorf("%o: %d without and %d with a trap", first, k.none, k.others)
		}
	}
	for _, first := range jumps {
		var k tally
		for n := range 8 {
			for field := 8; field < 64; field++ {
				if w := first + 64*n + field; lengthOf(w) > 0 && (first != 0o000100 || n == 0) {
					k.all(t, w, next)
				}
			}
		}
		if k.none < 2*k.others || k.none+k.others < 200 {
			t.Errorf("%o: %d without and %d with a trap", first, k.none, k.others)
		}
	}
}

func TestEveryOtherInstruction(t *testing.T) {
	next := numbers(4)
	var k tally
	for range 40 {
		for _, w := range onNone {
			k.all(t, w, next)
		}
		for n := range 8 {
			k.all(t, 0o000200+n, next)
			for offset := range 64 {
				if offset%9 == n {
					k.all(t, 0o077000+64*n+offset, next)
				}
			}
		}
	}
	if k.none < 1000 || k.others < 100 {
		t.Errorf("%d without and %d with a trap", k.none, k.others)
	}
}

// The lists of this file contain all operations.
func TestListsOfOperations(t *testing.T) {
	seen := map[api.Op]bool{}
	for w := range 65536 {
		if i, n := inst.Decode([]int{w, 0, 0}); n > 0 {
			seen[i.Op] = true
		}
	}
	if len(seen) != 56 {
		t.Errorf("%d operations", len(seen))
	}
	covered := map[api.Op]bool{}
	for _, l := range [][]int{onTwo, onOne, onReg, jumps, onNone, {0o000200, 0o077000}} {
		for _, w := range l {
			if l[0] == jumps[0] {
				w += 0o10
			}
			i, n := inst.Decode([]int{w, 0, 0})
			if n == 0 {
				t.Errorf("%o is no instruction", w)
			}
			covered[i.Op] = true
		}
	}
	// All branches are in TestBranches.
	for op := range seen {
		if !covered[op] && (op < api.OpBr || op > api.OpBcs) {
			t.Errorf("the operation %d is missing", op)
		}
	}
}

// Values of all kinds in registers and in memory, for every operation.
func TestEveryValue(t *testing.T) {
	values := []int{0, 1, 2, 0x7F, 0x80, 0x81, 0xFF, 0x100, 0x7F00, 0x7FFF, 0x8000, 0x8001, 0x80FF, 0xFF00, 0xFF80, 0xFFFE, 0xFFFF}
	for _, codes := range []int{0, 1, 8, 15} {
		for _, a := range values {
			for _, b := range values {
				m := begun()
				m.Cpu.R = [6]int{a, b, 100, b, 0, 101}
				m.Cpu.PSW = codes
				m.Mem[50] = b
				var words []int
				for _, first := range onTwo {
					words = append(words, first+0o0001, first+0o0012, first+0o1200)
				}
				for _, first := range onReg {
					words = append(words, first+0o0001, first+0o0203)
				}
				words = append(words, 0o070103, 0o072103)
				for _, first := range onOne {
					if a == values[0] {
						words = append(words, first+1, first+0o12)
					}
				}
				for _, w := range words {
					execute(t, m, []int{w})
				}
			}
		}
	}
}

// A destination is read only if the operation needs it, and written only if there is a result.
func TestReadingAndWriting(t *testing.T) {
	var words []int
	for _, first := range onTwo {
		words = append(words, first+0o0011)
	}
	for _, first := range onOne {
		words = append(words, first+0o11)
	}
	words = append(words, 0o074011)
	for _, w := range words {
		i, _ := inst.Decode([]int{w})
		reads, writes := true, true
		switch i.Op {
		case api.OpMfp:
			continue
		case api.OpMov, api.OpClr, api.OpSxt, api.OpMtp:
			reads = false
		case api.OpCmp, api.OpBit, api.OpTst:
			writes = false
		}
		m := with(begun(), "r1=100 r0=3 w100=5 w512=7")
		m.Bad = []int{100}
		x, trap := execute(t, m, []int{w})
		if reads && (trap != api.TrParity || !same(x, m)) || !reads && (trap != api.TrNone || len(x.Bad) > 0) {
			t.Errorf("%o with a bad word: trap %d", w, trap)
		}
		m = with(paged(0), "r1=8292 ksp=100")
		x, trap = execute(t, m, []int{w})
		if writes && (trap != api.TrMmu || !same(x, faulty(m, 3, 8292))) || !writes && (trap != api.TrNone || x.Mmu != m.Mmu) {
			t.Errorf("%o with a page that is only read: trap %d", w, trap)
		}
		// The registers of the line lose the byte that was typed when they are read.
		m = with(begun(), "r1=57858 rx=65 w512=7")
		if x, _ = execute(t, m, []int{w}); x.Lines[0].RxReady == reads {
			t.Errorf("%o with a register: read %v", w, !reads)
		}
	}
}

func TestJumpsDoNotReadTheirDestination(t *testing.T) {
	m := with(begun(), "r1=100")
	m.Bad = []int{100}
	for _, w := range []int{0o000111, 0o004511, 0o004711} {
		if x, trap := execute(t, m, []int{w}); trap != api.TrNone || x.Cpu.PC != 100 || len(x.Bad) != 1 {
			t.Errorf("%o to a bad word: trap %d, PC %d", w, trap, x.Cpu.PC)
		}
	}
}

// Instructions that are not valid.

func TestInvalidInstructions(t *testing.T) {
	one := api.Operand{Reg: 1}
	for _, m := range []api.Machine{begun(), inUse(256, 2), paged(0xC000)} {
		for _, i := range []api.Inst{
			{}, {Op: -1}, {Op: 57}, {Op: 1000}, {Op: api.OpMov, Src: api.Operand{Reg: 8}}, {Op: api.OpMov, Dst: api.Operand{Reg: -1}},
			{Op: api.OpMov, Src: api.Operand{Mode: 8}}, {Op: api.OpMov, Src: api.Operand{Mode: 6, Ext: 65536}}, {Op: api.OpMov, Src: api.Operand{Mode: 1, Ext: 1}},
			{Op: api.OpAdd, Byte: true}, {Op: api.OpXor, Byte: true, Dst: one}, {Op: api.OpMov, Reg: 1}, {Op: api.OpMov, Num: 1}, {Op: api.OpClr, Src: one},
			{Op: api.OpDiv, Reg: 1}, {Op: api.OpMul, Reg: 8}, {Op: api.OpMul, Reg: -1}, {Op: api.OpAsh, Dst: one}, {Op: api.OpJmp}, {Op: api.OpJmp, Dst: one}, {Op: api.OpJsr, Reg: 7, Dst: one},
			{Op: api.OpBr, Num: 128}, {Op: api.OpBr, Num: -129}, {Op: api.OpSob, Num: 64}, {Op: api.OpSob, Num: -1}, {Op: api.OpSob, Reg: 9},
			{Op: api.OpTrap, Num: 256}, {Op: api.OpEmt, Num: -1}, {Op: api.OpCcc, Num: 16}, {Op: api.OpScc, Num: -1}, {Op: api.OpRts, Reg: 8},
			{Op: api.OpRti, Num: 1}, {Op: api.OpHalt, Reg: 1}, {Op: api.OpWait, Byte: true}, {Op: api.OpRset, Dst: one}, {Op: api.OpBpt, Num: 2}, {Op: api.OpIot, Src: one},
			{Op: api.OpMfp, Dst: one}, {Op: api.OpMtp, Src: one}, {Op: api.OpSwab, Byte: true}, {Op: api.OpSxt, Byte: true},
		} {
			for _, words := range []int{0, 1, 2, 3, -1, 4} {
				if x, trap := cpu.Execute(m, i, words); trap != api.TrIllegal || !same(x, m) {
					t.Errorf("%+v with %d words: trap %d, differences: %s", i, words, trap, differences(x, m))
				}
			}
		}
	}
}

func TestWrongNumbersOfWords(t *testing.T) {
	for _, l := range [][]int{{0o010001}, {0o012701, 5}, {0o012737, 5, 100}, {0o000405}, {2}, {3}, {0o104400}, {0}, {1}, {5}, {0o000240}, {0o004737, 100}} {
		i, n := inst.Decode(l)
		if n != len(l) {
			t.Fatalf("%o has %d words", l, n)
		}
		for _, m := range []api.Machine{begun(), inUse(256, 2)} {
			for _, words := range append(upTo(-5, 9), farInts...) {
				x, trap := cpu.Execute(m, i, words)
				if words == n {
					if trap == api.TrIllegal {
						t.Errorf("%o with %d words is illegal", l, words)
					}
					continue
				}
				if trap != api.TrIllegal || !same(x, m) {
					t.Errorf("%o with %d words: trap %d, differences: %s", l, words, trap, differences(x, m))
				}
			}
		}
	}
}

func TestPrivilegedInstructions(t *testing.T) {
	for _, psw := range []int{0x8000, 0xC000, 0x80FF, 0xC0FF, 0, 0x4000, 0x40FF} {
		for _, w := range []int{0, 1, 5} {
			for _, m := range []api.Machine{begun(), inUse(256, 2), paged(0)} {
				m.Cpu.PSW = psw
				x, trap := execute(t, m, []int{w})
				if psw >= 0x8000 && (trap != api.TrIllegal || !same(x, m)) || psw < 0x8000 && trap != api.TrNone {
					t.Errorf("%o with the status word %#x: trap %d, differences: %s", w, psw, trap, differences(x, m))
				}
			}
		}
		// All others are allowed in both modes.
		for _, w := range []int{2, 3, 4, 0o000240, 0o010000, 0o104000, 0o104400, 0o006501, 0o006601} {
			m := begun()
			m.Cpu.PSW = psw
			if _, trap := execute(t, m, []int{w}); trap == api.TrIllegal {
				t.Errorf("%o with the status word %#x is illegal", w, psw)
			}
		}
	}
}
