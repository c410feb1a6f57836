package machine_test

import (
	"slices"
	"testing"

	"emulator/api"
	"emulator/clock"
	"emulator/cpu"
	"emulator/diskctl"
	"emulator/inst"
	"emulator/line"
	"emulator/machine"
	"emulator/memory"
	"emulator/tape"
)

// address returns an address that is in memory and even, in most cases.
func address(next func(int) int) int {
	switch next(24) {
	case 0:
		return next(65536)
	case 1:
		return next(2048)
	case 2, 3:
		return ioPage + 512 + 2*next(16)
	case 4:
		return ioPage + 768 + 2*next(20)
	case 5:
		return ioPage + 256
	}
	return 2 * next(520)
}

// firstWord returns the first word of an instruction, in most cases. Those that halt the machine are rare.
func firstWord(next func(int) int) int {
	for {
		w := next(65536)
		switch next(9) {
		case 0:
			w = 1 + next(5)
		case 1:
			w = 0o000240 + next(32)
		case 2:
			w = 0o000400*next(8) + next(256)
		case 3:
			w = 0o104000 + next(512)
		case 4:
			w = 0o005000 + 0o100000*next(2) + next(768)
		case 5:
			return w
		}
		if _, n := inst.Decode([]int{w, 0, 0}); n > 0 {
			return w
		}
	}
}

// pages returns a memory management unit whose pages are mostly in a memory of 1024 bytes. In kernel mode the first page is all of it.
func pages(next func(int) int) api.Mmu {
	u := api.Mmu{On: next(3) == 0, Status: next(4), Addr: next(65536)}
	for mode := range 2 {
		for page := range 8 {
			u.Pages[mode][page] = api.Page{Base: next(3), Length: 12 + next(6), Access: next(3), Written: next(2) == 0}
		}
		u.Pages[mode][7] = api.Page{Base: ioBase / 64, Length: 128, Access: 2}
	}
	u.Pages[kernel][0] = api.Page{Length: 16, Access: 2}
	return u
}

// flip returns true or false.
func flip(next func(int) int) bool { return next(2) == 0 }

// registers returns the registers of a processor.
func registers(next func(int) int) api.Cpu {
	c := api.Cpu{SP: [2]int{1024 - 2*next(100), 1024 - 2*next(100)}, PC: 256 + 2*next(300)}
	for i := range c.R {
		c.R[i] = address(next)
	}
	c.PSW = next(16) + 16*(next(4)/3) + 32*next(8)*next(2) + 0x4000*next(4)
	switch next(16) {
	case 0:
		c.SP[next(2)] = address(next)
	case 1:
		c.PC = address(next)
	}
	return c
}

// scene returns a machine of 1024 bytes in which most addresses lie in memory, with devices of which some are busy and some have requests. Most of its vectors lead to instructions.
func scene(next func(int) int) api.Machine {
	m := blank(1024, next(5))
	for i := range m.Mem {
		if i < 128 && i%2 == 0 {
			m.Mem[i] = 256 + 2*next(300)
		} else if i < 128 {
			m.Mem[i] = next(16) + 16*(next(6)/5) + 32*next(8) + 0x8000*(next(3)/2)
		} else if next(3) == 0 {
			m.Mem[i] = address(next)
		} else {
			m.Mem[i] = firstWord(next)
		}
	}
	m.Cpu = registers(next)
	m.Mmu = pages(next)
	for addr := 2 * next(300); addr < 1024; addr += 2 + 2*next(300) {
		m.Bad = append(m.Bad, addr)
	}
	return active(m, next)
}

// active returns a machine whose devices and conditions have been chosen anew.
func active(m api.Machine, next func(int) int) api.Machine {
	m = kept(m)
	period := 1 + next(30)
	m.Clock = api.Clock{Enable: flip(next), Ready: next(4) == 0, Period: period, Left: 1 + next(period)}
	for i := range m.Lines {
		left := next(5) * next(2)
		m.Lines[i] = api.Line{RxEnable: flip(next), RxReady: next(4) == 0, RxData: next(256), TxEnable: next(4) == 0, TxReady: left == 0, TxLeft: left, TxData: next(256)}
	}
	k, t := &m.Disk, &m.Tape
	k.Enable, k.Command, k.Words, k.Addr, k.Start, k.Left = flip(next), 1+next(3), 1+next(80), 640+2*next(150), next(3), next(9)*next(2)
	k.Ready = k.Left == 0
	t.Enable, t.Command, t.Count, t.Addr, t.Pos, t.Left = flip(next), 1+next(6), next(90), 640+next(300), next(len(t.Records)+1), next(17)*next(2)
	t.Ready = t.Left == 0
	m.Waiting, m.PowerTrap = next(4) == 0, next(8) == 0
	if next(3) == 0 {
		m.Power = 1 + next(40)
	}
	m.Now = next(1000)
	if next(8) == 0 {
		m.Now = maxTicks - next(3)
	}
	return m
}

// expected returns the machine after a step, written after DOC.md's section on steps, and what the step does with its vector. The interrupts, the ticks of the devices and the loss of the power are those of this model.
func expected(m api.Machine) (api.Machine, int, int) {
	if m.Halted {
		return m, 0, 0
	}
	x, kind, at := kept(m), 4, 0
	switch vector := served(x); {
	case x.PowerTrap:
		kind, at = 1, 20
		x.PowerTrap, x.Waiting = false, false
		x = cpu.Enter(x, at)
	case vector != 0:
		kind, at = 2, vector
		x.Waiting = false
		switch vector {
		case 64:
			x.Clock.Ready = false
		case 160:
			x.Disk.Enable = false
		case 164:
			x.Tape.Enable = false
		}
		x = cpu.Enter(x, at)
	case x.Waiting:
		kind = 3
	default:
		x = instruction(x)
	}
	passTick(&x)
	if x.Power--; x.Power < 0 {
		x.Power = 0
	} else if x.Power == 0 {
		x.Halted = true
		abandon(&x.Disk.Left, &x.Disk.Ready, &x.Disk.Error)
		abandon(&x.Tape.Left, &x.Tape.Ready, &x.Tape.Error)
	}
	if x.Halted {
		x.Waiting, x.Power, x.PowerTrap = false, 0, false
	}
	return x, kind, at
}

// served returns the vector of the interrupt that is entered, or 0.
func served(m api.Machine) int {
	p := m.Cpu.PSW / 32 % 8
	switch {
	case p <= 5 && m.Clock.Enable && m.Clock.Ready:
		return 64
	case p <= 4 && m.Disk.Enable && m.Disk.Ready:
		return 160
	case p <= 4 && m.Tape.Enable && m.Tape.Ready:
		return 164
	case p >= 4:
		return 0
	}
	for i, l := range m.Lines {
		if l.RxEnable && l.RxReady {
			return 128 + 8*i
		}
		if l.TxEnable && l.TxReady {
			return 132 + 8*i
		}
	}
	return 0
}

// instruction returns the machine after an instruction and its trap.
func instruction(m api.Machine) api.Machine {
	vectors := [...]int{0, 4, 8, 12, 16, 20, 24, 28, 32, 36}
	traced := m.Cpu.PSW/16%2 == 1
	i, n, x, trap := cpu.Fetch(m)
	if n > 0 {
		x, trap = cpu.Execute(x, i, n)
	}
	switch {
	case trap != api.TrNone:
		return cpu.Enter(x, vectors[trap])
	case traced:
		return cpu.Enter(x, 12)
	}
	return x
}

// passTick lets a tick pass.
func passTick(x *api.Machine) {
	if x.Now < maxTicks {
		x.Now++
	}
	x.Clock = clock.Tick(x.Clock)
	for i := range x.Lines {
		x.Lines[i] = line.Tick(x.Lines[i])
	}
	x.Disk, x.Mem, x.Bad = diskctl.Tick(x.Disk, x.Mem, x.Bad)
	x.Tape, x.Mem, x.Bad = tape.Tick(x.Tape, x.Mem, x.Bad)
}

// abandon ends what is in progress.
func abandon(left *int, ready, failed *bool) {
	if *left > 0 {
		*left, *ready, *failed = 0, true, true
	}
}

// step makes a step of a valid machine, and compares it with the model. It returns what the step has done.
func step(t *testing.T, m api.Machine) (api.Machine, int) {
	t.Helper()
	want, kind, vector := expected(m)
	if k, v := machine.Cause(m); k != kind || v != vector {
		t.Fatalf("the cause %d and %d, want %d and %d: %+v", k, v, kind, vector, m.Cpu)
	}
	x := machine.Step(m)
	if !same(x, want) {
		t.Fatalf("wrong are %s after the cause %d: %+v, want %+v", differences(x, want), kind, x.Cpu, want.Cpu)
	}
	// P20.5 and P20.7.
	if !m.Halted && x.Now != min(m.Now+1, maxTicks) || m.Halted && !same(x, m) {
		t.Fatalf("the time is %d after %d", x.Now, m.Now)
	}
	if !machine.Right(x) {
		t.Fatalf("not valid: %+v", x.Cpu)
	}
	return x, kind
}

func TestRandomSteps(t *testing.T) {
	next := numbers(1)
	causes := [5]int{}
	halted, lost, abandoned, traced := 0, 0, 0, 0
	for range 20000 {
		m := scene(next)
		if !machine.Right(m) {
			t.Fatal("the scene is not valid")
		}
		x, kind := step(t, m)
		causes[kind]++
		switch {
		case x.Halted && m.Power == 1:
			lost++
			if !m.Disk.Ready && x.Disk.Error || !m.Tape.Ready && x.Tape.Error {
				abandoned++
			}
		case x.Halted:
			halted++
		case kind == 4 && m.Cpu.PSW&16 != 0:
			traced++
		}
	}
	for kind, least := range [5]int{0, 2000, 3500, 1500, 3500} {
		if causes[kind] < least {
			t.Errorf("the cause %d occurs %d times", kind, causes[kind])
		}
	}
	if halted < 300 || lost < 60 || abandoned < 30 || traced < 300 {
		t.Errorf("%d halted, %d lost the power, %d transfers abandoned, %d traced", halted, lost, abandoned, traced)
	}
}

// happening does something to a machine from outside, as it happens between steps, and returns its name.
func happening(m api.Machine, next func(int) int) (api.Machine, string) {
	switch next(6) {
	case 0:
		if x, e := machine.Type(m, next(4), next(256)); e == api.OK {
			return x, "a byte is typed"
		}
	case 1:
		if x, e := machine.Fail(m, 1+next(60)); e == api.OK {
			return x, "the power fails"
		}
	case 2:
		m.Bad, _ = memory.Spoil(m.Mem, m.Bad, 2*next(512))
		return m, "a word becomes bad"
	case 3:
		m = kept(m)
		m.Cpu = registers(next)
		m.Mem[128+next(384)] = firstWord(next)
		return m, "other registers"
	}
	return m, ""
}

// TestRuns makes long runs, in which machines that are halted are restarted, or go on with other devices.
func TestRuns(t *testing.T) {
	happened := map[string]int{}
	for seed := range 40 {
		next := numbers(1000 + seed)
		m := scene(next)
		for range 700 {
			if m.Halted {
				m.Cpu.SP[kernel] = 900
				if m = machine.Restart(m); next(4) > 0 {
					m = active(m, next)
					m.Halted = false
				}
				happened["restart"]++
				if m.Halted {
					// The vector of the power trap is bad, or its new stack cannot be used.
					m = scene(next)
				}
			}
			if next(12) == 0 {
				x, name := happening(m, next)
				m = x
				happened[name]++
			}
			before := m
			x, kind := step(t, m)
			m = x
			happened["step "+string(rune('0'+kind))]++
			if m.Halted {
				happened["halted"]++
			}
			if m.Halted && before.Power == 1 {
				happened["the power is lost"]++
			}
			if m.Now == maxTicks {
				happened["end of time"]++
			}
			if before.Disk.Left == 1 && m.Disk.Ready && !m.Disk.Error {
				happened["a transfer ends"]++
			}
		}
	}
	for what, least := range map[string]int{"restart": 100, "a byte is typed": 100, "the power fails": 50, "a word becomes bad": 100, "other registers": 100, "step 1": 200, "step 2": 3000, "step 3": 500, "step 4": 8000, "halted": 100, "the power is lost": 50, "end of time": 1000, "a transfer ends": 50} {
		if happened[what] < least {
			t.Errorf("%s: %d times", what, happened[what])
		}
	}
}

// P20.3 and P20.6: Run.

func TestRunIsManySteps(t *testing.T) {
	halted := 0
	for seed := range 60 {
		m := scene(numbers(3000 + seed))
		x := m
		for n := range 60 {
			if y := machine.Run(m, n); !same(x, y) {
				t.Fatalf("after %d steps wrong are %s", n, differences(y, x))
			}
			x = machine.Step(x)
		}
		if x.Halted {
			halted++
			for _, n := range []int{1000, 1 << 20, 1 << 40, 1<<63 - 1} {
				if y := machine.Run(m, n); !same(x, y) {
					t.Fatalf("after %d steps wrong are %s", n, differences(y, x))
				}
			}
		}
	}
	if halted < 10 || halted > 50 {
		t.Errorf("%d of the machines are halted", halted)
	}
}

func TestRunInTwoParts(t *testing.T) {
	for seed := range 30 {
		next := numbers(5000 + seed)
		m := scene(next)
		for range 12 {
			a, b := next(40), next(40)
			if next(4) == 0 {
				a *= next(2)
				b *= next(2)
			}
			if x, y := machine.Run(machine.Run(m, a), b), machine.Run(m, a+b); !same(x, y) {
				t.Fatalf("%d and %d steps: wrong are %s", a, b, differences(x, y))
			}
		}
	}
}

func TestRunOfNoSteps(t *testing.T) {
	for _, m := range slices.Concat(machines(), []api.Machine{inUse(32768, 4)}) {
		for _, n := range []int{0, -1, -2, -100, -1 << 32, -1<<32 + 1, -1 << 62, -1 << 63} {
			if x := machine.Run(m, n); !same(x, m) {
				t.Errorf("%d steps: wrong are %s", n, differences(x, m))
			}
		}
	}
}

// Machines of all sizes.
func TestSizes(t *testing.T) {
	for _, size := range []int{256, 320, 4096, 32768} {
		for lines := range 5 {
			m, e := machine.New(size, lines, 1+lines)
			if e != api.OK {
				t.Fatalf("error %d", e)
			}
			// inc @#size-2; br back; the clock interrupts through 64 into the same loop.
			for i, w := range []int{0o005237, size - 2, 0o000775} {
				m.Mem[50+i] = w
			}
			m.Mem[32], m.Mem[33] = 100, 0
			m.Cpu.PC, m.Cpu.SP[kernel], m.Clock.Enable = 100, 240, true
			for n := range 4 {
				m, _ = step(t, m)
				if want := (n + 2) / 2; m.Mem[size/2-1] != want {
					t.Errorf("%d bytes, %d lines: %d after %d steps", size, lines, m.Mem[size/2-1], n+1)
				}
			}
			x := machine.Run(m, 296)
			// Of each hundred steps fifty count; the first step after each of the first two periods is that of an interrupt.
			if x.Cpu.SP[kernel] != 232 || x.Mem[size/2-1] != 150 || x.Now != 300 {
				t.Errorf("%d bytes, %d lines: %d at %d, %+v", size, lines, x.Mem[size/2-1], x.Now, x.Cpu)
			}
		}
	}
}

// All machines of a run are kept, and compared with their copies at its end.
func TestEarlierMachinesStay(t *testing.T) {
	next := numbers(77)
	var all, copies []api.Machine
	m := scene(next)
	for range 600 {
		if m.Halted {
			m = scene(next)
		}
		m = machine.Step(m)
		all = append(all, m)
		copies = append(copies, kept(m))
	}
	for i := range all {
		if !same(all[i], copies[i]) {
			t.Fatalf("the machine of step %d has changed: %s", i, differences(all[i], copies[i]))
		}
	}
}
