package machine

import (
	"emulator/api"
	"emulator/arbiter"
	"emulator/bus"
	"emulator/cpu"
	"emulator/trap"
)

// What a step does.
const (
	doesNothing = iota
	entersPowerTrap
	entersInterrupt
	waits
	executes
)

// traceBit is the trace bit of the processor status word.
const traceBit = 1 << 4

// Cause returns what the next step does, and the vector.
func Cause(m api.Machine) (int, int) {
	if m.Halted {
		return doesNothing, 0
	}
	if m.PowerTrap {
		return entersPowerTrap, trap.Vector(api.TrPower)
	}
	if q, ok := arbiter.Grant(bus.Requests(m), m.Cpu.PSW); ok {
		return entersInterrupt, q.Vector
	}
	if m.Waiting {
		return waits, 0
	}
	return executes, 0
}

// Step returns the machine after a step.
func Step(m api.Machine) api.Machine {
	switch cause, vector := Cause(m); cause {
	case doesNothing:
		return Copy(m)
	case entersPowerTrap:
		m.PowerTrap, m.Waiting = false, false
		m = cpu.Enter(m, vector)
	case entersInterrupt:
		m.Waiting = false
		m = cpu.Enter(bus.Accept(m, vector), vector)
	case executes:
		m = execute(m)
	}
	return settled(tick(m))
}

// execute returns the machine after the next instruction and the entry of its trap. The trace bit that counts is the one before the instruction, which may change it.
func execute(m api.Machine) api.Machine {
	traced := m.Cpu.PSW&traceBit != 0
	i, words, m, t := cpu.Fetch(m)
	if t == api.TrNone {
		m, t = cpu.Execute(m, i, words)
	}
	if t == api.TrNone && traced {
		t = api.TrBpt
	}
	if t == api.TrNone {
		return m
	}
	return cpu.Enter(m, trap.Vector(t))
}

// tick returns the machine after a tick, which ends a step also if the machine has been halted in it.
func tick(m api.Machine) api.Machine {
	m = bus.Tick(m)
	m.Now = min(m.Now+1, api.MaxTicks)
	if m.Power == 0 {
		return m
	}
	m.Power--
	if m.Power == 0 {
		return withoutPower(m)
	}
	return m
}

// withoutPower returns the machine after the loss of its power. The devices tell that they have not finished; that the machine does not wait any more is left to the end of the step.
func withoutPower(m api.Machine) api.Machine {
	m.Halted = true
	if m.Disk.Left != 0 {
		m.Disk.Left, m.Disk.Ready, m.Disk.Error = 0, true, true
	}
	if m.Tape.Left != 0 {
		m.Tape.Left, m.Tape.Ready, m.Tape.Error = 0, true, true
	}
	return m
}
