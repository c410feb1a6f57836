package cpu_test

import (
	"testing"

	"emulator/api"
	"emulator/cpu"
	"emulator/inst"
)

// address returns an address that is in memory and even, in most cases.
func address(next func(int) int) int {
	switch next(16) {
	case 0:
		return next(65536)
	case 1:
		return next(2048)
	case 2:
		return ioPage + 2*next(420)
	}
	return 2 * next(520)
}

// firstWord returns the first word of an instruction, in most cases, all of which are about as frequent.
func firstWord(next func(int) int) int {
	for {
		w := next(65536)
		switch next(12) {
		case 0:
			w = onOne[next(len(onOne))] + next(64)
		case 1:
			w = jumps[next(2)] + next(64)
		case 2:
			w = onNone[next(len(onNone))]
		case 3:
			w = 0o006500 + next(128)
		case 4:
			w = 0o000200 + next(8)
		case 5:
			w = onReg[next(4)] + next(512)
		case 6:
			return w
		}
		if lengthOf(w) > 0 {
			return w
		}
	}
}

// randomPages returns a memory management unit whose pages are mostly in a memory of 1024 bytes.
func randomPages(next func(int) int) api.Mmu {
	u := api.Mmu{On: next(3) > 0, Status: next(4), Addr: next(65536)}
	for mode := range 2 {
		for page := range 8 {
			p := api.Page{Base: next(12), Length: 1 + next(12), Access: next(3), Written: next(2) == 0}
			if page == 0 || next(4) > 0 {
				p = api.Page{Base: next(3), Length: 12 + next(6), Access: 1 + next(2)}
			}
			if page > 0 && next(8) == 0 {
				p.Base = ioBase/64 + next(12)
			}
			u.Pages[mode][page] = p
		}
	}
	return u
}

// scene returns a machine of 1024 bytes, in which addresses and instructions lie in memory and most registers are addresses.
func scene(next func(int) int) api.Machine {
	m := blank(1024, 1+next(2))
	for i := range m.Mem {
		if next(2) == 0 {
			m.Mem[i] = address(next)
		} else {
			m.Mem[i] = firstWord(next)
		}
	}
	for i := range m.Cpu.R {
		m.Cpu.R[i] = address(next)
	}
	m.Cpu.SP = [2]int{address(next), address(next)}
	m.Cpu.PC = address(next)
	m.Cpu.PSW = statusWord(next(4), next) + next(2)*16
	m.Mmu = randomPages(next)
	for addr := 2 * next(60); addr < 1024; addr += 2 + 2*next(60) {
		m.Bad = append(m.Bad, addr)
	}
	for i := range m.Lines {
		m.Lines[i].RxReady, m.Lines[i].RxData = next(2) == 0, next(256)
	}
	m.Halted, m.Waiting = next(8) == 0, next(8) == 0
	return m
}

// changedWords returns the physical addresses of the words of memory that differ.
func changedWords(a, b api.Machine) []int {
	var l []int
	for i := range a.Mem {
		if a.Mem[i] != b.Mem[i] {
			l = append(l, 2*i)
		}
	}
	return l
}

// mayWrite tells whether a word at a physical address is in a page that a mode may write.
func mayWrite(u api.Mmu, mode, phys int) bool {
	for _, p := range u.Pages[mode] {
		if p.Access == 2 && phys >= 64*p.Base && phys < 64*(p.Base+p.Length) {
			return true
		}
	}
	return false
}

// guard checks that an instruction in user mode with memory management has only changed words that it may change.
func guard(t *testing.T, before, after api.Machine, w int) int {
	t.Helper()
	if before.Cpu.PSW < 0x8000 || !before.Mmu.On {
		return 0
	}
	mode := user
	if w>>6 == 0o066 {
		mode = before.Cpu.PSW >> 14 & 1
	}
	l := changedWords(before, after)
	for _, addr := range l {
		if !mayWrite(before.Mmu, mode, addr) {
			t.Fatalf("%o in user mode has changed the word at %d", w, addr)
		}
	}
	return len(l)
}

// P19.7: protection. Each instruction is executed in a scene of its own.
func TestRandomInstructions(t *testing.T) {
	next := numbers(5)
	counts := map[api.Trap]int{}
	changed := map[bool]int{}
	for range 30000 {
		m := scene(next)
		w := firstWord(next)
		if lengthOf(w) == 0 {
			continue
		}
		l := []int{w}
		for len(l) < lengthOf(w) {
			l = append(l, address(next))
		}
		x, trap := execute(t, m, l)
		counts[trap]++
		changed[w>>6 == 0o066] += guard(t, m, x, w)
		if i, n := inst.Decode(l); !cpu.Right(x.Cpu) {
			t.Fatalf("%+v with %d words leaves %+v", i, n, x.Cpu)
		}
	}
	for trap := api.TrNone; trap <= api.TrParity; trap++ {
		if trap != api.TrPower && counts[trap] < 50 {
			t.Errorf("the trap %d occurs %d times", trap, counts[trap])
		}
	}
	if changed[false] < 500 || changed[true] < 50 {
		t.Errorf("%v words are changed in user mode", changed)
	}
}

// In user mode all instructions stay in user mode, with the same priority.
func TestUserModeStays(t *testing.T) {
	next := numbers(6)
	done := 0
	for range 6000 {
		m := scene(next)
		m.Cpu.PSW |= 0x8000
		w := firstWord(next)
		if lengthOf(w) != 1 {
			continue
		}
		x, trap := execute(t, m, []int{w})
		if x.Cpu.PSW>>5 != m.Cpu.PSW>>5 {
			t.Fatalf("%o in user mode leaves the status word %#x", w, x.Cpu.PSW)
		}
		if trap == api.TrNone {
			done++
		}
	}
	if done < 1000 {
		t.Errorf("%d instructions without a trap", done)
	}
}

// Long runs: instructions are fetched and executed, and their traps are entered, one after the other.
func TestRuns(t *testing.T) {
	entered, executed, halted, changed := 0, 0, 0, 0
	for seed := range 60 {
		next := numbers(100 + seed)
		m := scene(next)
		m.Mmu.Pages[kernel][0] = api.Page{Base: 0, Length: 16, Access: 2}
		for range 200 {
			m.Halted, m.Waiting = false, false
			if next(20) == 0 {
				fresh := scene(next)
				m.Cpu = fresh.Cpu
				m.Cpu.SP[kernel] = 900
			}
			before := m
			i, n, x, trap := fetch(t, m)
			if trap == api.TrNone {
				words, _ := inst.Encode(i)
				if x, trap = execute(t, x, words); trap == api.TrNone {
					executed++
				}
				if n != len(words) {
					t.Fatalf("%+v has %d words", i, n)
				}
				changed += guard(t, before, x, words[0])
			}
			if m = x; trap == api.TrNone {
				continue
			}
			if m = enter(t, x, 4*next(16)); m.Halted {
				halted++
			} else {
				entered++
			}
			if !cpu.Right(m.Cpu) {
				t.Fatalf("not right: %+v", m.Cpu)
			}
		}
	}
	if executed < 2000 || entered < 1000 || halted < 300 || changed == 0 {
		t.Errorf("%d executed, %d entered, %d halted, %d words changed in user mode", executed, entered, halted, changed)
	}
}

// A program of user mode runs for a long time in pages of its own, and changes nothing outside of them.
func TestUserProgram(t *testing.T) {
	counts := map[api.Trap]int{}
	changed := 0
	for seed := range 40 {
		next := numbers(200 + seed)
		m := scene(next)
		m.Bad, m.Halted, m.Waiting = nil, false, false
		m.Mmu = api.Mmu{On: true}
		// The upper half of memory may be written, a quarter below it only be read.
		m.Mmu.Pages[user] = [8]api.Page{{Base: 8, Length: 8, Access: 2}, {Base: 4, Length: 4, Access: 1}}
		m.Cpu.PSW = 0xC000
		lower := kept(m).Mem[:256]
		for range 300 {
			m.Cpu.PC = 2 * next(256)
			if next(4) == 0 {
				m.Cpu.R[next(6)] = 2 * next(256)
				m.Cpu.SP[user] = 2 * next(256)
			}
			i, n, x, trap := fetch(t, m)
			if trap == api.TrNone {
				before := x
				x, trap = cpu.Execute(x, i, n)
				words, _ := inst.Encode(i)
				want, wanted, _ := expected(before, words)
				if trap != wanted || !same(x, want) {
					t.Fatalf("%o: trap %d, want %d, differences: %s", words, trap, wanted, differences(x, want))
				}
				changed += guard(t, before, x, words[0])
			}
			counts[trap]++
			m = x
			if m.Cpu.PSW>>14 != 3 || !m.Mmu.On || m.Halted || m.Waiting {
				t.Fatalf("the program has left its mode: %+v", m.Cpu)
			}
		}
		for i, w := range lower {
			if m.Mem[i] != w {
				t.Fatalf("the word at %d has been changed", 2*i)
			}
		}
	}
	if changed < 500 || counts[api.TrNone] < 2000 || counts[api.TrMmu] < 500 {
		t.Errorf("%d words changed, traps %v", changed, counts)
	}
}
