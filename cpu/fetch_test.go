package cpu_test

import (
	"strconv"
	"testing"

	"emulator/api"
)

// P19.3: Fetch.

// expectFetch fetches and compares the results with given ones and with those of the model.
func expectFetch(t *testing.T, m api.Machine, i api.Inst, n int, want api.Machine, trap api.Trap) {
	t.Helper()
	got, words, x, stopped := fetch(t, m)
	if got != i || words != n || stopped != trap || !same(x, want) {
		t.Errorf("%+v, %d words, trap %d, want %+v, %d words, trap %d, differences: %s", got, words, stopped, i, n, trap, differences(x, want))
	}
}

// refused fetches what gives a trap and leaves the machine as it is.
func refused(t *testing.T, m api.Machine, trap api.Trap) {
	t.Helper()
	expectFetch(t, m, api.Inst{}, 0, m, trap)
}

func TestFetchByHand(t *testing.T) {
	for _, psw := range []int{0, 0x8000, 0xC0FF} {
		for _, k := range []struct {
			words []int
			i     api.Inst
			n     int
		}{
			{[]int{0o060100}, api.Inst{Op: api.OpAdd, Src: api.Operand{Reg: 1}}, 1},
			{[]int{0o012701, 5}, api.Inst{Op: api.OpMov, Src: api.Operand{Mode: 2, Reg: 7, Ext: 5}, Dst: api.Operand{Reg: 1}}, 2},
			{[]int{0o110061, 65535}, api.Inst{Op: api.OpMov, Byte: true, Dst: api.Operand{Mode: 6, Reg: 1, Ext: 65535}}, 2},
			{[]int{0o026737, 4, 6}, api.Inst{Op: api.OpCmp, Src: api.Operand{Mode: 6, Reg: 7, Ext: 4}, Dst: api.Operand{Mode: 3, Reg: 7, Ext: 6}}, 3},
			{[]int{0o004537, 9}, api.Inst{Op: api.OpJsr, Reg: 5, Dst: api.Operand{Mode: 3, Reg: 7, Ext: 9}}, 2},
			{[]int{0o000776}, api.Inst{Op: api.OpBr, Num: -2}, 1},
			{[]int{2}, api.Inst{Op: api.OpRti}, 1},
			{[]int{0o104403}, api.Inst{Op: api.OpTrap, Num: 3}, 1},
			{[]int{0o006506, 1}, api.Inst{Op: api.OpMfp, Src: api.Operand{Reg: 6}}, 1},
		} {
			m := begun(k.words...)
			m.Cpu.PSW = psw
			expectFetch(t, m, k.i, k.n, m, api.TrNone)
			m.Halted, m.Waiting = true, true
			expectFetch(t, m, k.i, k.n, m, api.TrNone)
		}
	}
}

func TestFetchOfEveryWord(t *testing.T) {
	counts := map[int]int{}
	for _, psw := range []int{0, 0x8000, 0x4000, 0xC000} {
		m := begun()
		m.Cpu.PSW = psw
		for w := range 65536 {
			m.Mem[32], m.Mem[33], m.Mem[34] = w, 65535-w, w/2
			// Words that look alike are tried with one status word each.
			if w > 0o400 && w%5 > 0 && w%4 != psw>>14 {
				continue
			}
			i, n, x, trap := fetch(t, m)
			privileged := w == 0 || w == 1 || w == 5
			none := lengthOf(w) == 0 || privileged && psw >= 0x8000
			if none != (trap == api.TrIllegal) || !none && (trap != api.TrNone || n != lengthOf(w)) || none && (i != api.Inst{} || n != 0) || !same(x, m) {
				t.Fatalf("%o with the status word %#x: %+v, %d words, trap %d", w, psw, i, n, trap)
			}
			counts[n]++
		}
	}
	for n := range 4 {
		if counts[n] < 1000 {
			t.Errorf("%d times %d words", counts[n], n)
		}
	}
}

func TestFetchAtTheEndOfAddresses(t *testing.T) {
	m := blank(32768, 1)
	m.Mmu.On = true
	for mode := range 2 {
		// Page 7 is the last one of memory, page 0 the first one.
		m.Mmu.Pages[mode][7] = api.Page{Base: 384, Length: 128, Access: 1}
		m.Mmu.Pages[mode][0] = api.Page{Base: 0, Length: 1, Access: 1}
	}
	m = with(m, "w32764=0o012737 w32766=5 w0=6")
	for _, psw := range []int{0, 0x8000} {
		m.Cpu.PSW = psw
		mov := api.Inst{Op: api.OpMov, Src: api.Operand{Mode: 2, Reg: 7, Ext: 5}, Dst: api.Operand{Mode: 3, Reg: 7, Ext: 6}}
		m.Cpu.PC = 65532
		expectFetch(t, m, mov, 3, m, api.TrNone)
		late := with(m, "pc=65534 w32766=0o012737 w0=7 w2=8")
		mov.Src.Ext, mov.Dst.Ext = 7, 8
		expectFetch(t, late, mov, 3, late, api.TrNone)
		late.Cpu.PC = 65535
		refused(t, late, api.TrBus)
		// Without page 0 the extension words cannot be read.
		m.Mmu.Pages[psw>>15][0].Access = 0
		expectFetch(t, m, api.Inst{}, 0, faulty(m, 1, 0), api.TrMmu)
		m.Mmu.Pages[psw>>15][0].Access = 1
	}
}

func TestFetchOfWordsThatCannotBeRead(t *testing.T) {
	for _, psw := range []int{0, 0x8000} {
		words := []int{0o012737, 5, 100}
		m := begun(words...)
		m.Cpu.PSW = psw
		for i := range words {
			m.Bad = []int{64 + 2*i}
			refused(t, m, api.TrParity)
		}
		m.Bad = []int{70}
		if _, n, _, trap := fetch(t, m); n != 3 || trap != api.TrNone {
			t.Errorf("with a bad word behind it: %d words, trap %d", n, trap)
		}
		m.Bad = nil
		for _, pc := range []int{65, 1, 1023, 65535} {
			refused(t, with(m, "pc="+strconv.Itoa(pc)), api.TrBus)
		}
		for _, pc := range []int{1024, 1026, 0xDFFE, 0xE004, 0xFFFE} {
			refused(t, with(m, "pc="+strconv.Itoa(pc)), api.TrBus)
		}
		// The words lie across the end of memory.
		refused(t, with(m, "pc=1022 w1022=0o012700"), api.TrBus)
		refused(t, with(m, "pc=1020 w1020=0o012737 w1022=5"), api.TrBus)
		x := with(m, "pc=1022 w1022=0o010000")
		expectFetch(t, x, api.Inst{Op: api.OpMov}, 1, x, api.TrNone)
		// A word that is no instruction is illegal, whatever follows it.
		refused(t, with(m, "pc=1022 w1022=0o000006"), api.TrIllegal)
		refused(t, with(m, "pc=1022 w1022=0o071137"), api.TrIllegal)
		refused(t, with(m, "pc=1022 w1022=0o000107"), api.TrIllegal)
		bad := with(m, "pc=100 w100=0o071137")
		bad.Bad = []int{102}
		refused(t, bad, api.TrIllegal)
	}
}

func TestFetchWithManagement(t *testing.T) {
	for _, psw := range []int{0, 0x8000, 0x4000, 0xC000} {
		m := paged(psw)
		at := psw >> 15 * 512
		copy(m.Mem[(at+508)/2:], []int{0o012737, 5})
		m.Cpu.PC = 508
		expectFetch(t, m, api.Inst{}, 0, faulty(m, 2, 512), api.TrMmu)
		m.Cpu.PC = 510
		m.Mem[(at+510)/2] = 0o012700
		expectFetch(t, m, api.Inst{}, 0, faulty(m, 2, 512), api.TrMmu)
		m.Cpu.PC = 512
		expectFetch(t, m, api.Inst{}, 0, faulty(m, 2, 512), api.TrMmu)
		m.Cpu.PC = 16384
		expectFetch(t, m, api.Inst{}, 0, faulty(m, 1, 16384), api.TrMmu)
		m.Cpu.PC = 32768
		refused(t, m, api.TrBus)
		m.Cpu.PC = 8192 + 100
		m.Mem[(1024+at+100)/2] = 0o000240
		expectFetch(t, m, api.Inst{Op: api.OpCcc}, 1, m, api.TrNone)
	}
}

// Registers are read like memory, and stay read if a later word has a trap.
func TestFetchFromRegisters(t *testing.T) {
	for _, psw := range []int{0, 0x8000} {
		m := begun()
		m.Cpu.PSW, m.Cpu.PC = psw, ioPage+514
		m.Lines[0].RxData, m.Lines[0].RxReady = 0o241, true
		read := kept(m)
		read.Lines[0].RxReady = false
		expectFetch(t, m, api.Inst{Op: api.OpCcc, Num: 1}, 1, read, api.TrNone)
		m.Lines[0].RxData, read.Lines[0].RxData = 0o200+7+1, 0o200+7+1
		expectFetch(t, m, api.Inst{}, 0, read, api.TrIllegal)
		// jmp @#.., whose second word is the status of the transmitter.
		m.Lines[0].RxData, read.Lines[0].RxData = 0o137, 0o137
		expectFetch(t, m, api.Inst{Op: api.OpJmp, Dst: api.Operand{Mode: 3, Reg: 7, Ext: 128}}, 2, read, api.TrNone)
		// Each word is read once: after an overrun, reading again gives another one.
		m.Lines[0].RxData, m.Lines[0].Overrun, read.Lines[0].RxData = 5, true, 5
		expectFetch(t, m, api.Inst{Op: api.OpBpl, Num: 5}, 1, read, api.TrNone)
		// The last register of the tape has none behind it.
		m.Cpu.PC, m.Tape.Addr = ioPage+804, 0o137
		refused(t, m, api.TrBus)
	}
}

func TestRandomFetches(t *testing.T) {
	next := numbers(3)
	counts := map[api.Trap]int{}
	for range 6000 {
		m := scene(next)
		if next(3) > 0 {
			m.Cpu.PC &^= 1
		}
		_, _, _, trap := fetch(t, m)
		counts[trap]++
	}
	for _, trap := range []api.Trap{api.TrNone, api.TrBus, api.TrIllegal, api.TrMmu, api.TrParity} {
		if counts[trap] < 50 {
			t.Errorf("the trap %d occurs %d times", trap, counts[trap])
		}
	}
}
