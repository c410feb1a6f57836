package machine_test

import (
	"slices"
	"strings"
	"testing"

	"emulator/api"
	"emulator/machine"
)

// P20.1: Right.

func TestRightOfValidMachines(t *testing.T) {
	for _, size := range []int{256, 320, 1024, 4096, 32704, 32768} {
		for lines := range 5 {
			for i, m := range []api.Machine{blank(size, lines), inUse(size, lines)} {
				if !machine.Right(m) {
					t.Errorf("machine %d of %d bytes with %d lines is not valid", i, size, lines)
				}
			}
		}
	}
	m := blank(256, 0)
	m.Bad, m.Lines, m.Tape.Records = []int{}, []api.Line{}, []string{}
	if !machine.Right(m) {
		t.Error("a machine with empty lists is not valid")
	}
	if machine.Right(api.Machine{}) {
		t.Error("the zero machine is valid")
	}
}

func TestRightWithEveryCondition(t *testing.T) {
	right := 0
	for _, base := range []api.Machine{blank(256, 1), inUse(256, 2)} {
		for i := range 8 {
			for _, now := range slices.Concat(upTo(-2, 2), []int{10001, 65536, 1<<40 - 1, 1 << 40, 1<<40 + 1}, farInts) {
				for _, power := range slices.Concat(upTo(-2, 2), []int{255, 256, 9998, 9999, 10000, 10001, 10002, 65535, 65536}, farInts) {
					m := base
					m.Halted, m.Waiting, m.PowerTrap, m.Now, m.Power = i&1 != 0, i&2 != 0, i&4 != 0, now, power
					want := now >= 0 && now <= 1<<40 && power >= 0 && power <= 10000
					if m.Halted && (m.Waiting || m.PowerTrap || power != 0) {
						want = false
					}
					if got := machine.Right(m); got != want {
						t.Fatalf("%v: halted %v, waiting %v, power trap %v, now %d, power %d", got, m.Halted, m.Waiting, m.PowerTrap, now, power)
					}
					if want {
						right++
					}
				}
			}
		}
	}
	// The numbers from 0 to MaxTicks are 0, 1, 2, 10001, 65536 and two more, and some of the far ones; those of Power are nine.
	if right < 2*7*(4*8+1) {
		t.Errorf("right %d times", right)
	}
}

func TestRightWithEveryTick(t *testing.T) {
	m := blank(256, 0)
	for _, n := range upTo(-20, 10020) {
		m.Now, m.Power = n, 0
		if got := machine.Right(m); got != (n >= 0) {
			t.Errorf("%v at %d", got, n)
		}
		m.Now, m.Power = 0, n
		if got := machine.Right(m); got != (n >= 0 && n <= 10000) {
			t.Errorf("%v with %d ticks until the power is lost", got, n)
		}
		m.Halted = true
		if got := machine.Right(m); got != (n == 0) {
			t.Errorf("%v: halted with %d ticks until the power is lost", got, n)
		}
		m.Halted = false
	}
}

// spoiler makes a part of a machine with two lines at least invalid.
type spoiler struct {
	part, name string
	spoil      func(m *api.Machine)
}

// spoilers has such functions for every part of a machine.
func spoilers() []spoiler {
	return []spoiler{
		{"memory", "no memory", func(m *api.Machine) { m.Mem = nil }},
		{"memory", "a memory of 254 bytes", func(m *api.Machine) { m.Mem, m.Bad = m.Mem[1:], nil }},
		{"memory", "a large memory", func(m *api.Machine) { m.Mem = make([]int, 16384+32) }},
		{"memory", "a large word", func(m *api.Machine) { m.Mem[len(m.Mem)-1] = 65536 }},
		{"memory", "a negative word", func(m *api.Machine) { m.Mem[0] = -1 }},
		{"bad", "an odd bad address", func(m *api.Machine) { m.Bad = []int{2, 5} }},
		{"bad", "a bad address behind memory", func(m *api.Machine) { m.Bad = []int{2, 32768} }},
		{"bad", "equal bad addresses", func(m *api.Machine) { m.Bad = []int{2, 2} }},
		{"mmu", "a base", func(m *api.Machine) { m.Mmu.Pages[1][7].Base = 4096 }},
		{"mmu", "a fault address", func(m *api.Machine) { m.Mmu.Addr = 65536 }},
		{"clock", "no period", func(m *api.Machine) { m.Clock.Period = 0 }},
		{"clock", "no ticks left", func(m *api.Machine) { m.Clock.Left = 0 }},
		{"lines", "five lines", func(m *api.Machine) { m.Lines = blank(256, 5).Lines }},
		{"lines", "the received byte of the first line", func(m *api.Machine) { m.Lines[0].RxData = 256 }},
		{"lines", "the output of the last line", func(m *api.Machine) { m.Lines[len(m.Lines)-1].Out = strings.Repeat("x", 4097) }},
		{"drive", "no sectors", func(m *api.Machine) { m.Disk.Drive = api.Drive{} }},
		{"drive", "a short sector", func(m *api.Machine) { m.Disk.Drive.Sectors[1] = text(127, 1) }},
		{"disk", "a command of the disk", func(m *api.Machine) { m.Disk.Command = 4 }},
		{"disk", "a disk that is ready and busy", func(m *api.Machine) { m.Disk.Ready = !m.Disk.Ready }},
		{"tape", "65 records", func(m *api.Machine) { m.Tape.Records = make([]string, 65) }},
		{"tape", "a tape that is ready and busy", func(m *api.Machine) { m.Tape.Ready = !m.Tape.Ready }},
		{"registers", "a register", func(m *api.Machine) { m.Cpu.R[0] = 65536 }},
		{"registers", "the last register", func(m *api.Machine) { m.Cpu.R[5] = -1 }},
		{"registers", "the stack pointer of kernel mode", func(m *api.Machine) { m.Cpu.SP[0] = 65536 }},
		{"registers", "the stack pointer of user mode", func(m *api.Machine) { m.Cpu.SP[1] = -1 }},
		{"pc", "PC", func(m *api.Machine) { m.Cpu.PC = 65536 }},
		{"ps", "a bit of the PSW that does not exist", func(m *api.Machine) { m.Cpu.PSW = 256 }},
		{"ps", "a large PSW", func(m *api.Machine) { m.Cpu.PSW = 65536 }},
		{"time", "a negative time", func(m *api.Machine) { m.Now = -1 }},
		{"time", "a large time", func(m *api.Machine) { m.Now = 1<<40 + 1 }},
		{"power", "a negative power", func(m *api.Machine) { m.Power = -1 }},
		{"power", "a large power", func(m *api.Machine) { m.Power = 10001 }},
		{"halted", "halted and waiting", func(m *api.Machine) { m.Halted, m.Waiting, m.PowerTrap = true, true, false }},
		{"halted", "halted with the power trap", func(m *api.Machine) { m.Halted, m.Waiting, m.PowerTrap = true, false, true }},
	}
}

func TestRightWithInvalidParts(t *testing.T) {
	all := spoilers()
	for _, build := range []func(size, lines int) api.Machine{blank, inUse} {
		for i, a := range all {
			m := build(256, 3)
			a.spoil(&m)
			if machine.Right(m) {
				t.Errorf("valid with %s", a.name)
			}
			for _, b := range all[i+1:] {
				// A part may be valid again after two changes of it: only different parts are spoilt together.
				if a.part == b.part || a.part == "memory" && b.part == "bad" {
					continue
				}
				m := build(256, 3)
				a.spoil(&m)
				b.spoil(&m)
				if machine.Right(m) {
					t.Errorf("valid with %s and %s", a.name, b.name)
				}
			}
		}
	}
}

// P20.1: Copy. That it shares nothing is tested in sharing_test.go.

func TestCopy(t *testing.T) {
	list := slices.Concat(machines(), invalidMachines())
	for i, m := range list {
		if x := machine.Copy(m); !same(x, m) {
			t.Errorf("machine %d: differences: %s", i, differences(x, m))
		}
	}
	if x := machine.Copy(api.Machine{}); !same(x, api.Machine{}) {
		t.Error("the copy of the zero machine is another one")
	}
}
