package machine_test

import (
	"slices"
	"testing"

	"emulator/api"
	"emulator/machine"
)

// P20.3: the loss of the power in a step.

// busy returns a machine whose disk and tape have so many ticks left until they read two words, or 70 bytes. The devices that have none are ready.
func busy(m api.Machine, disk, tape int) api.Machine {
	m = kept(m)
	k, t := &m.Disk, &m.Tape
	k.Command, k.Words, k.Addr, k.Left, k.Ready = 1, 2, 900, disk, disk == 0
	t.Command, t.Count, t.Addr, t.Left, t.Ready, t.Pos = 1, 80, 920, tape, tape == 0, 2
	return m
}

func TestPowerIsLost(t *testing.T) {
	for _, k := range []struct{ name, settings string }{
		{"an instruction", "w300=0o000240"}, {"an interrupt", "clock=1"}, {"waiting", "waiting=1"}, {"a trap", "w300=3"}, {"the power trap", "powertrap=1"}, {"the power trap that ends waiting", "powertrap=1 waiting=1"}, {"wait", "w300=1"},
		{"halt", "w300=0"}, {"a trap that halts", "w300=3 ksp=1"}, {"the power trap that halts", "powertrap=1 ksp=1"}, {"an interrupt that halts", "clock=1 ksp=1"},
	} {
		for _, disk := range upTo(0, 8) {
			for _, tape := range upTo(0, 16) {
				m := busy(with(begun(), k.settings), disk, tape)
				// Until the last tick, everything is as without a failure, but that a machine that is halted loses its power no more.
				for _, power := range []int{2, 3, 10000} {
					failing := with(m, "power=1")
					failing.Power = power
					want := machine.Step(m)
					if !want.Halted {
						want.Power = power - 1
					}
					if x := machine.Step(failing); !same(x, want) {
						t.Fatalf("%s with %d ticks left: wrong are %s", k.name, power, differences(x, want))
					}
				}
				want := machine.Step(m)
				want.Halted, want.Waiting, want.PowerTrap = true, false, false
				if disk > 1 {
					want.Disk.Left, want.Disk.Ready, want.Disk.Error = 0, true, true
				}
				if tape > 1 {
					want.Tape.Left, want.Tape.Ready, want.Tape.Error = 0, true, true
				}
				x := machine.Step(with(m, "power=1"))
				if !same(x, want) {
					t.Fatalf("%s, disk %d, tape %d: wrong are %s", k.name, disk, tape, differences(x, want))
				}
				if !machine.Right(x) {
					t.Fatalf("%s, disk %d, tape %d: not valid", k.name, disk, tape)
				}
			}
		}
	}
}

func TestPowerIsLostByHand(t *testing.T) {
	m := busy(with(begun(0o012737, 5, 100), "power=1 left=1 r3=9 bad=30"), 3, 5)
	m.Lines[1] = api.Line{RxReady: true, RxData: 4, TxData: 65, TxLeft: 3, Out: "y"}
	want := with(m, "pc=306 w100=5 power=0 halted=1 now=1 left=100 ready=1")
	want.Lines[1].TxLeft = 2
	want.Disk = api.Disk{Drive: m.Disk.Drive, Ready: true, Error: true, Command: 1, Words: 2, Addr: 900}
	want.Tape = api.Tape{Records: m.Tape.Records, Pos: 2, Ready: true, Error: true, Command: 1, Count: 80, Addr: 920}
	expectStep(t, "both are busy", m, want)

	// What ends in the last tick has ended.
	m = busy(with(begun(0o000240), "power=1"), 1, 1)
	x := machine.Step(m)
	if !x.Halted || x.Disk.Error || x.Tape.Error || x.Disk.Words != 0 || x.Tape.Pos != 3 || x.Mem[450] == 0 || x.Mem[460] == 0 {
		t.Errorf("the disk %v and %d words, the tape %v at %d", x.Disk.Error, x.Disk.Words, x.Tape.Error, x.Tape.Pos)
	}
	// A transfer of two sectors is abandoned between them.
	m = busy(with(begun(0o000240), "power=1"), 1, 0)
	m.Disk.Words, m.Disk.Addr, m.Disk.Enable = 70, 800, true
	x = machine.Step(m)
	k := api.Disk{Drive: m.Disk.Drive, Enable: true, Ready: true, Error: true, Command: 1, Words: 6, Addr: 928, Start: 1}
	if want = with(m, "pc=302 halted=1 power=0 now=1 left=99"); !slices.Equal(x.Mem[464:], want.Mem[464:]) || slices.Equal(x.Mem[400:464], want.Mem[400:464]) {
		t.Error("the memory is wrong between two sectors")
	}
	want.Mem, want.Disk = x.Mem, k
	if !same(x, want) {
		t.Errorf("between two sectors: wrong are %s", differences(x, want))
	}
	// All commands of the tape are abandoned.
	for command := 1; command <= 6; command++ {
		m = busy(with(begun(0o000240), "power=1"), 0, 16)
		m.Tape.Command, m.Tape.Mark, m.Tape.End, m.Tape.Enable = command, true, true, true
		want = with(m, "pc=302 halted=1 power=0 now=1 left=99")
		want.Tape.Left, want.Tape.Ready, want.Tape.Error = 0, true, true
		expectStep(t, "a command of the tape", m, want)
	}
}

// A machine that is halted by an instruction before its power is lost abandons nothing.
func TestHaltBeforeThePowerIsLost(t *testing.T) {
	m := busy(with(begun(0), "power=2"), 5, 9)
	want := with(m, "pc=302 halted=1 power=0 now=1 left=99")
	want.Disk.Left, want.Tape.Left = 4, 8
	expectStep(t, "halt", m, want)
}

// P20.4: Type.

func TestTypeWithEveryByte(t *testing.T) {
	for lines := range 5 {
		for _, base := range []api.Machine{blank(256, lines), inUse(256, lines)} {
			for i := range lines {
				for _, ready := range bools {
					for _, b := range slices.Concat(upTo(-300, 600), farInts) {
						m := kept(base)
						m.Lines[i].RxReady, m.Lines[i].Overrun = ready, false
						want := kept(m)
						want.Lines[i].RxReady, want.Lines[i].Overrun, want.Lines[i].RxData = true, ready, remainder(b, 256)
						if x, e := machine.Type(m, i, b); e != api.OK || !same(x, want) {
							t.Fatalf("typing %d on line %d of %d: error %d, wrong are %s", b, i, lines, e, differences(x, want))
						}
					}
				}
			}
		}
	}
}

func TestTypeWithEveryLine(t *testing.T) {
	for lines := range 5 {
		m := blank(256, lines)
		for _, n := range slices.Concat(upTo(-10, 20), farInts) {
			x, e := machine.Type(m, n, 65)
			if n >= 0 && n < lines {
				if e != api.OK || x.Lines[n].RxData != 65 || !machine.Right(x) {
					t.Errorf("line %d of %d: error %d", n, lines, e)
				}
				continue
			}
			if e != api.ErrRange || !same(x, api.Machine{}) {
				t.Errorf("line %d of %d: error %d", n, lines, e)
			}
		}
	}
}

// A byte may be typed at any time; it is the next step that serves it.
func TestTypeInEveryCondition(t *testing.T) {
	for _, s := range []string{"", "halted=1", "waiting=1", "power=5 powertrap=1", "power=5 waiting=1", "ps=0xE0", "rx0=1 clock=1"} {
		m := with(begun(), s)
		x, e := machine.Type(m, 1, 66)
		want := kept(m)
		want.Lines[1].RxReady, want.Lines[1].RxData = true, 66
		if e != api.OK || !same(x, want) {
			t.Errorf("%s: error %d, wrong are %s", s, e, differences(x, want))
		}
	}
	m := with(begun(1), "waiting=1")
	m.Lines[1].RxEnable = true
	m, _ = machine.Type(m, 1, 66)
	if x := machine.Step(m); x.Waiting || x.Cpu.PC != 736 || x.Lines[1].RxData != 66 || !x.Lines[1].RxReady {
		t.Errorf("the interrupt: %+v", x.Cpu)
	}
	m, _ = machine.Type(m, 1, 67)
	if l := m.Lines[1]; !l.Overrun || l.RxData != 67 {
		t.Errorf("two bytes: %+v", l)
	}
}

// P20.4: Fail.

func TestFailWithEveryNumber(t *testing.T) {
	for _, base := range []api.Machine{blank(256, 1), inUse(256, 2)} {
		for _, n := range slices.Concat(upTo(-300, 10300), []int{65535, 65536, 65537, 75536}, farInts) {
			m := kept(base)
			m.Power = 0
			x, e := machine.Fail(m, n)
			if n < 1 || n > 10000 {
				if e != api.ErrRange || !same(x, api.Machine{}) {
					t.Fatalf("%d ticks: error %d", n, e)
				}
				continue
			}
			want := kept(m)
			want.Power, want.PowerTrap = n, true
			if e != api.OK || !same(x, want) || !machine.Right(x) {
				t.Fatalf("%d ticks: error %d, wrong are %s", n, e, differences(x, want))
			}
		}
	}
}

func TestFailInEveryCondition(t *testing.T) {
	for _, k := range []struct {
		settings string
		e        api.Errno
	}{
		{"", api.OK}, {"waiting=1", api.OK}, {"powertrap=1", api.OK}, {"powertrap=1 waiting=1", api.OK}, {"ps=0xC010 clock=1", api.OK},
		{"halted=1", api.ErrState}, {"power=1", api.ErrState}, {"power=10000 powertrap=1", api.ErrState}, {"power=5 waiting=1", api.ErrState},
	} {
		m := with(begun(), k.settings)
		for _, n := range []int{1, 2, 9999, 10000} {
			want := api.Machine{}
			if k.e == api.OK {
				want = kept(m)
				want.Power, want.PowerTrap = n, true
			}
			if x, e := machine.Fail(m, n); e != k.e || !same(x, want) {
				t.Errorf("%s: error %d, wrong are %s", k.settings, e, differences(x, want))
			}
		}
		for _, n := range slices.Concat([]int{0, -1, 10001}, farInts) {
			want := k.e
			if want == api.OK {
				want = api.ErrRange
			}
			if x, e := machine.Fail(m, n); e != want || !same(x, api.Machine{}) {
				t.Errorf("%s, %d ticks: error %d", k.settings, n, e)
			}
		}
	}
}

// A machine whose power fails goes on for so many steps.
func TestFailLosesThePower(t *testing.T) {
	for _, n := range []int{1, 2, 3, 50, 100, 101, 1000, 10000} {
		m := begun(0o000777)
		copy(m.Mem[620/2:], []int{0o005201, 0o000776})
		m.Now = 11
		x, _ := machine.Fail(m, n)
		for k := range n {
			if x.Halted || x.Now != 11+k || x.Power != n-k || x.PowerTrap != (k == 0) {
				t.Fatalf("after %d steps of %d: halted %v, power %d", k, n, x.Halted, x.Power)
			}
			if _, e := machine.Fail(x, 5); e != api.ErrState {
				t.Fatalf("after %d steps of %d: error %d", k, n, e)
			}
			x = machine.Step(x)
		}
		if !x.Halted || x.Power != 0 || x.Now != 11+n || x.Cpu.R[1] != n/2 {
			t.Errorf("after %d steps: halted %v, power %d, %+v", n, x.Halted, x.Power, x.Cpu)
		}
		if _, e := machine.Fail(x, 5); e != api.ErrState {
			t.Errorf("after %d steps: error %d", n, e)
		}
		if y := machine.Run(x, 10); !same(x, y) {
			t.Errorf("after %d steps: %s change", n, differences(x, y))
		}
	}
}

// P20.4: Restart.

// restarted returns the machine after a restart that does not halt it: with its devices reset, and through the vector 20 of begun.
func restarted(m api.Machine) api.Machine {
	x := kept(m)
	x.Mmu = api.Mmu{}
	x.Clock = api.Clock{Period: m.Clock.Period, Left: m.Clock.Period}
	for i, l := range x.Lines {
		x.Lines[i] = api.Line{RxData: l.RxData, TxData: l.TxData, Out: l.Out, TxReady: true}
	}
	x.Disk = api.Disk{Drive: x.Disk.Drive, Ready: true, Words: m.Disk.Words, Addr: m.Disk.Addr, Start: m.Disk.Start}
	x.Tape = api.Tape{Records: x.Tape.Records, Pos: m.Tape.Pos, Ready: true, Count: m.Tape.Count, Addr: m.Tape.Addr}
	x.Halted, x.Waiting, x.Power, x.PowerTrap = false, false, 0, false
	sp := m.Cpu.SP[kernel] - 4
	x.Mem[sp/2], x.Mem[sp/2+1] = m.Cpu.PC, 0
	x.Cpu.PC, x.Cpu.PSW, x.Cpu.SP[kernel] = 620, 0xE1, sp
	return x
}

func TestRestart(t *testing.T) {
	for _, s := range []string{"halted=1", "", "waiting=1", "power=5 powertrap=1", "power=10000 waiting=1", "ps=0xC01F halted=1", "ps=0xFF halted=1", "ps=0x8000 pc=301", "pc=65535 halted=1", "r1=5 usp=1 halted=1", "clock=1 disk=1 tape=1 rx0=1 tx1=1 ready=1", "now=1099511627776", "bad=300 halted=1"} {
		m := with(begun(), s)
		want := restarted(m)
		if x := machine.Restart(m); !same(x, want) {
			t.Errorf("%s: wrong are %s: %+v", s, differences(x, want), x.Cpu)
		}
		m = busy(m, 4, 7)
		m.Mmu = pagesOf(5)
		m.Mmu.On = true
		m.Clock.Period, m.Clock.Left = 33, 2
		m.Disk.Enable, m.Disk.Error, m.Tape.Error, m.Tape.Mark, m.Tape.End = true, true, true, true, true
		m.Lines = inUse(256, 4).Lines
		want = restarted(m)
		if x := machine.Restart(m); !same(x, want) || !machine.Right(x) {
			t.Errorf("%s, with devices in use: wrong are %s: %+v", s, differences(x, want), x.Cpu)
		}
	}
	// Into user mode: the old PSW is that of kernel mode, so the previous mode is it too.
	m := with(begun(), "halted=1 w22=0xC00F ps=0xC000")
	want := with(m, "halted=0 pc=620 ps=0x800F usp=1020 w1022=0 w1020=300")
	if x := machine.Restart(m); !same(x, want) {
		t.Errorf("into user mode: wrong are %s: %+v", differences(x, want), x.Cpu)
	}
}

// If the power trap cannot be entered, the machine is halted; its devices are reset, and the mode is that of the kernel.
func TestRestartThatHalts(t *testing.T) {
	for _, s := range []string{"ksp=1", "ksp=2", "ksp=0", "bad=20", "bad=22", "ksp=1026", "ksp=5000", "w22=0x8000 usp=3"} {
		for _, before := range []string{"halted=1", "waiting=1 power=4 powertrap=1", "ps=0xC01F", "ps=0xE5 power=1"} {
			m := with(begun(), before+" clock=1 rx0=1 left=8 "+s)
			want := with(m, "halted=1 waiting=0 power=0 powertrap=0 ps=0 clock=0 rx0=0 left=100")
			if x := machine.Restart(m); !same(x, want) || !machine.Right(x) {
				t.Errorf("%s %s: wrong are %s: %+v", before, s, differences(x, want), x.Cpu)
			}
			m.Mmu = pagesOf(2)
			m.Mmu.On = true
			if x := machine.Restart(m); !same(x, want) {
				t.Errorf("%s %s, with memory management: wrong are %s", before, s, differences(x, want))
			}
		}
	}
}

// A program saves what it needs when the power fails, and goes on after the restart.
func TestFailureAndRestart(t *testing.T) {
	// The loop at 300 counts in R0. The power trap is entered twice: the first time, the word at 900 is 0, and R0 is saved and the machine is halted; the second time, R0 is restored.
	m := begun(0o005200, 0o000776)
	copy(m.Mem[620/2:], []int{
		0o005737, 900, // tst @#900
		0o001005,      // bne to 636
		0o010037, 902, // mov r0, @#902
		0o005237, 900, // inc @#900
		0,             // halt
		0o013700, 902, // 636: mov @#902, r0
		0o022626, // cmp (sp)+, (sp)+
		2,        // rti
	})
	m = machine.Run(m, 100)
	if m.Cpu.R[0] != 50 || m.Cpu.PC != 300 {
		t.Fatalf("the loop: %+v", m.Cpu)
	}
	m, e := machine.Fail(m, 50)
	if e != api.OK {
		t.Fatalf("error %d", e)
	}
	m = machine.Run(m, 1000)
	if !m.Halted || m.Now != 100+1+5 || m.Power != 0 || m.PowerTrap || m.Mem[451] != 50 || m.Mem[450] != 1 {
		t.Fatalf("the failure: halted %v at %d, %+v", m.Halted, m.Now, m.Cpu)
	}
	m.Cpu.R[0] = 9999
	m = machine.Restart(m)
	if m.Halted || m.Cpu.PC != 620 || m.Cpu.SP[kernel] != 504 || m.Now != 106 {
		t.Fatalf("the restart: %+v", m.Cpu)
	}
	// tst, bne, mov, cmp and rti go back to where the power failed.
	m = machine.Run(m, 5)
	if m.Cpu.PC != 300 || m.Cpu.R[0] != 50 || m.Cpu.SP[kernel] != 512 || m.Cpu.PSW >= 16 {
		t.Fatalf("the return: %+v", m.Cpu)
	}
	if m = machine.Run(m, 10); m.Cpu.R[0] != 55 {
		t.Errorf("the loop afterwards: %+v", m.Cpu)
	}
}
