package cpu_test

import (
	"slices"
	"testing"

	"emulator/api"
	"emulator/mmu"
)

// P19.6: an instruction that is aborted changes no register.

func TestAbortsByHand(t *testing.T) {
	for _, k := range []struct {
		name   string
		words  []int
		before string
		trap   api.Trap
	}{
		{"mov (r0), r1", []int{0o011001}, "r0=101", api.TrBus},
		{"mov (r0)+, (r1)+", []int{0o012021}, "r0=100 r1=201", api.TrBus},
		{"mov (r0)+, -(r1)", []int{0o012041}, "r0=100 r1=1026", api.TrBus},
		{"mov -(r0), @(r1)+", []int{0o014031}, "r0=100 r1=200 w200=7", api.TrBus},
		{"mov @(r0)+, r1", []int{0o013001}, "r0=100 w100=7", api.TrBus},
		{"movb @(r0)+, r1", []int{0o113001}, "r0=101", api.TrBus},
		{"movb (r0)+, (r1)+", []int{0o112021}, "r0=100 r1=1024", api.TrBus},
		{"add 4(r0), @6(r1)", []int{0o066071, 4, 6}, "r0=100 r1=200 w206=1024", api.TrBus},
		{"add #5, @#1024", []int{0o062737, 5, 1024}, "", api.TrBus},
		{"cmp (r0)+, (r1)+", []int{0o022021}, "r0=100 r1=201 ps=15", api.TrBus},
		{"cmp -(sp), (sp)+", []int{0o024626}, "sp=1026", api.TrBus},
		{"sub (r0), pc", []int{0o161007}, "r0=40000", api.TrBus},
		{"xor r0, @-(r0)", []int{0o074050}, "r0=102 w100=7", api.TrBus},
		{"inc (r1)+", []int{0o005221}, "r1=101 ps=15", api.TrBus},
		{"clr @#101", []int{0o005037, 101}, "ps=15", api.TrBus},
		{"mul (r1)+, r2", []int{0o070221}, "r1=101", api.TrBus},
		{"div @(r2)+, r2", []int{0o071232}, "r2=100 w100=7", api.TrBus},
		{"ash -(r3), r3", []int{0o072343}, "r3=0", api.TrBus},
		{"jmp @(r1)+", []int{0o000131}, "r1=101", api.TrBus},
		{"jmp @-(r1)", []int{0o000151}, "r1=1026", api.TrBus},
		{"jsr r5, (r1)+", []int{0o004521}, "r1=100 r5=7 sp=511", api.TrBus},
		{"jsr r5, @(r1)+", []int{0o004531}, "r1=101 r5=7", api.TrBus},
		{"jsr pc, @#100", []int{0o004737, 100}, "sp=0", api.TrBus},
		{"rts r5", []int{0o000205}, "r5=100 sp=511", api.TrBus},
		{"rts pc", []int{0o000207}, "sp=1024", api.TrBus},
		{"rts sp", []int{0o000206}, "sp=65534", api.TrBus},
		{"rti", []int{2}, "sp=511", api.TrBus},
		{"rti, at the PSW", []int{2}, "sp=1022 w1022=100 ps=5", api.TrBus},
		{"rti in user mode", []int{2}, "ps=0x8000 usp=1022 w1022=100", api.TrBus},
		{"mfp (r1)+", []int{0o006521}, "r1=101", api.TrBus},
		{"mfp (r1)+, at the stack", []int{0o006521}, "r1=100 w100=7 sp=1", api.TrBus},
		{"mfp @(r1)+", []int{0o006531}, "r1=100 w100=7", api.TrBus},
		{"mtp r1", []int{0o006601}, "sp=511 ps=15", api.TrBus},
		{"mtp (r1)+", []int{0o006621}, "r1=101 w512=0 ps=10", api.TrBus},
		{"mtp sp", []int{0o006606}, "sp=1024 ps=0x4000", api.TrBus},
	} {
		m := with(begun(), k.before)
		if x, trap := execute(t, m, k.words); trap != k.trap || !same(x, m) {
			t.Errorf("%s: trap %d, differences: %s, %+v", k.name, trap, differences(x, m), x.Cpu)
		}
	}
}

func TestAbortsByParity(t *testing.T) {
	for _, k := range []struct {
		words  []int
		before string
		bad    int
	}{
		{[]int{0o011001}, "r0=100", 100}, {[]int{0o111001}, "r0=101", 100}, {[]int{0o013001}, "r0=100 w100=200", 100}, {[]int{0o013001}, "r0=100 w100=200", 200},
		{[]int{0o022021}, "r0=100 r1=200", 200}, {[]int{0o062021}, "r0=100 r1=200", 200}, {[]int{0o012031}, "r0=100 r1=200 w200=300", 200},
		{[]int{0o012701, 5}, "", 66}, {[]int{0o000205}, "r5=7", 512}, {[]int{2}, "", 512}, {[]int{2}, "", 514}, {[]int{0o006521}, "r1=100", 100}, {[]int{0o006621}, "r1=100", 512},
		{[]int{0o006631}, "r1=100 w100=200", 100}, {[]int{0o004531}, "r1=100 w100=200", 100}, {[]int{0o000131}, "r1=100 w100=200", 100},
	} {
		m := with(begun(), k.before)
		m.Bad = []int{k.bad}
		if x, trap := execute(t, m, k.words); trap != api.TrParity || !same(x, m) {
			t.Errorf("%o (%s): trap %d, differences: %s", k.words, k.before, trap, differences(x, m))
		}
		m.Bad = []int{500}
		if _, trap := execute(t, m, k.words); trap != api.TrNone {
			t.Errorf("%o (%s): trap %d with another bad word", k.words, k.before, trap)
		}
	}
}

// What devices have done before an abort remains: here, the byte that was typed is read.
func TestAbortsKeepWhatDevicesHaveDone(t *testing.T) {
	for _, k := range []struct {
		words  []int
		before string
	}{
		{[]int{0o012021}, "r0=57858 r1=101"},
		{[]int{0o013737, 57858, 101}, ""},
		{[]int{0o112021}, "r0=57858 r1=1024"},
		{[]int{0o022021}, "r0=57858 r1=101"},
		{[]int{0o006537, 57858}, "sp=1"},
		{[]int{0o004531}, "r1=57858 sp=1"},
	} {
		m := with(with(begun(), "rx=65"), k.before)
		want := kept(m)
		want.Lines[0].RxReady = false
		x, trap := execute(t, m, k.words)
		if trap != api.TrBus || !same(x, want) {
			t.Errorf("%o (%s): trap %d, differences: %s", k.words, k.before, trap, differences(x, want))
		}
	}
}

// A page that would have been written is marked, and a fault recorded, though the registers are as before.
func TestAbortsKeepWhatTheUnitHasDone(t *testing.T) {
	m := with(paged(0), "r0=100 r1=32768 r5=7")
	if x, trap := execute(t, m, []int{0o010021}); trap != api.TrBus || !same(x, written(m, 4)) {
		t.Errorf("mov r0, (r1)+ behind memory: trap %d, differences: %s", trap, differences(x, written(m, 4)))
	}
	m.Cpu.SP[0] = 32770
	if x, trap := execute(t, m, []int{0o004510}); trap != api.TrBus || !same(x, written(m, 4)) {
		t.Errorf("jsr r5, (r0) with a stack behind memory: trap %d, differences: %s", trap, differences(x, written(m, 4)))
	}
	m.Cpu.SP[0] = 8192
	if x, trap := execute(t, m, []int{0o004510}); trap != api.TrMmu || !same(x, faulty(m, 2, 8190)) {
		t.Errorf("jsr r5, (r0) with a stack without a page: trap %d, differences: %s", trap, differences(x, faulty(m, 2, 8190)))
	}
	m = with(paged(0x8000), "r0=8202 r1=16384")
	for _, w := range []int{0o012021, 0o062021, 0o122021, 0o005221, 0o000131, 0o006521, 0o071221} {
		if x, trap := execute(t, m, []int{w}); trap != api.TrMmu || !same(x, faulty(m, 1, 16384)) {
			t.Errorf("%o: trap %d, differences: %s", w, trap, differences(x, faulty(m, 1, 16384)))
		}
	}
}

// orchard returns a machine with memory management, each of whose registers points into a page of its own, as do the words of memory. The pages of user mode lie behind those of kernel mode.
func orchard(next func(int) int, psw int) api.Machine {
	m := blank(2048, 1)
	for i := range m.Mem {
		m.Mem[i] = 8192*next(8) + 2*next(60)
	}
	m.Mmu.On = true
	for mode := range 2 {
		for page := range 8 {
			m.Mmu.Pages[mode][page] = api.Page{Base: 16*mode + 2*page, Length: 2, Access: 2}
		}
	}
	for i := range m.Cpu.R {
		m.Cpu.R[i] = 8192*i + 4 + 2*next(56)
	}
	m.Cpu.SP = [2]int{8192*6 + 4 + 2*next(56), 8192*6 + 4 + 2*next(56)}
	m.Cpu.PC = 8192*7 + 4 + 2*next(50)
	m.Cpu.PSW = psw
	return m
}

// spoilt is a machine in which an access has a trap.
type spoilt struct {
	m    api.Machine
	trap api.Trap
}

// spoil returns the machines in which an access has each of the traps that it may have.
func spoil(m api.Machine, a visit) []spoilt {
	page := a.addr / 8192
	with := func(change func(p *api.Page)) api.Machine {
		x := kept(m)
		change(&x.Mmu.Pages[a.mode][page])
		return x
	}
	l := []spoilt{
		{with(func(p *api.Page) { p.Access = 0 }), api.TrMmu},
		{with(func(p *api.Page) { p.Length = a.addr % 8192 / 64 }), api.TrMmu},
		{with(func(p *api.Page) { p.Base = 4000 }), api.TrBus},
	}
	if a.write {
		return append(l, spoilt{with(func(p *api.Page) { p.Access = 1 }), api.TrMmu})
	}
	phys, _, _ := mmu.Translate(m.Mmu, a.mode, a.addr, false)
	x := kept(m)
	x.Bad = []int{phys &^ 1}
	return append(l, spoilt{x, api.TrParity})
}

// nearby returns extension words for an instruction in an orchard: addresses, and small offsets from registers.
func nearby(w int, next func(int) int) []int {
	var l []int
	fields, _ := fieldsOf(w)
	for _, field := range fields {
		switch {
		case field == 0o37:
			l = append(l, 8192*next(8)+2*next(60))
		case extended(field):
			l = append(l, 2*next(3))
		}
	}
	return l
}

// TestAbortInEveryAccess lets each access of many instructions have each trap in turn.
func TestAbortInEveryAccess(t *testing.T) {
	next := numbers(7)
	var words []int
	for _, first := range onTwo {
		for range 60 {
			words = append(words, first+next(4096))
		}
	}
	for _, first := range slices.Concat(onOne, jumps) {
		for field := range 64 {
			words = append(words, first+field)
		}
	}
	for _, first := range onReg {
		for range 60 {
			words = append(words, first+next(512))
		}
	}
	for n := range 8 {
		words = append(words, 0o000200+n, 2, 0o004000+64*n+next(64))
	}
	counts := map[api.Trap]int{}
	at := map[int]int{}
	done := 0
	for _, w := range words {
		for range 2 {
			m := orchard(next, statusWord(next(4), next))
			if lengthOf(w) == 0 {
				continue
			}
			l := append([]int{w}, nearby(w, next)...)
			_, trap, visits := expected(m, l)
			if aborts(trap) {
				continue
			}
			done++
			for _, a := range visits {
				for _, s := range spoil(m, a) {
					abortIn(t, s, l, a, at, counts)
				}
			}
		}
	}
	if done < len(words) {
		t.Errorf("only %d of %d instructions have been executed", done, 2*len(words))
	}
	for _, trap := range []api.Trap{api.TrBus, api.TrMmu, api.TrParity} {
		if counts[trap] < 2000 {
			t.Errorf("the trap %d occurs %d times", trap, counts[trap])
		}
	}
	// An operation on two deferred operands makes five accesses.
	for n := 1; n <= 5; n++ {
		if at[n] < 40 {
			t.Errorf("access %d has a trap %d times", n, at[n])
		}
	}
}

// abortIn executes an instruction one of whose accesses has a trap, and counts the traps and the accesses up to it.
func abortIn(t *testing.T, s spoilt, l []int, a visit, at map[int]int, counts map[api.Trap]int) {
	t.Helper()
	x, trap := execute(t, s.m, l)
	_, _, done := expected(s.m, l)
	last := done[len(done)-1]
	if !aborts(trap) || x.Cpu != s.m.Cpu || !slices.Equal(x.Mem, s.m.Mem) {
		t.Fatalf("%o: trap %d, differences: %s", l, trap, differences(x, s.m))
	}
	// Another access to the same page may have come first.
	if last == a && trap != s.trap {
		t.Fatalf("%o: trap %d, want %d", l, trap, s.trap)
	}
	counts[trap]++
	at[len(done)]++
}
