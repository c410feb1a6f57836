package cpu

import (
	"slices"

	"emulator/api"
	"emulator/bus"
	"emulator/inst"
	"emulator/mmu"
	"emulator/psw"
	"emulator/word"
)

// The general registers that have a meaning of their own. Those below the stack pointer are in the list R.
const (
	stackPointer   = 6
	programCounter = 7
)

const (
	wordBytes = 2
	maxWords  = 3 // of an instruction
)

// processor is a machine while its processor works. After the first trap no further access is made, and every word that is read is 0, so that the trap need only be looked at in the end.
type processor struct {
	m    api.Machine
	trap api.Trap
	own  bool // whether the machine shares no lists with the one that was given
}

// result returns the machine with lists of its own.
func (p *processor) result() api.Machine {
	if p.own {
		return p.m
	}
	return copied(p.m)
}

// copied returns a machine that shares no lists with the given one.
func copied(m api.Machine) api.Machine {
	m.Mem = slices.Clone(m.Mem)
	m.Bad = slices.Clone(m.Bad)
	m.Lines = slices.Clone(m.Lines)
	m.Disk.Drive.Sectors = slices.Clone(m.Disk.Drive.Sectors)
	m.Disk.Drive.Bad = slices.Clone(m.Disk.Drive.Bad)
	m.Tape.Records = slices.Clone(m.Tape.Records)
	return m
}

// mode returns the current mode.
func (p *processor) mode() int { return psw.Mode(p.m.Cpu.PSW) }

// previous returns the previous mode.
func (p *processor) previous() int { return psw.Previous(p.m.Cpu.PSW) }

// flags returns the condition codes.
func (p *processor) flags() int { return psw.Flags(p.m.Cpu.PSW) }

// setFlags sets the condition codes.
func (p *processor) setFlags(codes int) { p.m.Cpu.PSW = psw.WithFlags(p.m.Cpu.PSW, codes) }

// registerIn returns a general register; register 6 is the stack pointer of the mode.
func registerIn(c api.Cpu, mode, n int) int {
	switch {
	case n == programCounter:
		return c.PC
	case n == stackPointer:
		return c.SP[mode]
	case n >= 0 && n < stackPointer:
		return c.R[n]
	}
	return 0
}

// withRegisterIn returns the registers with another value of a general register; register 6 is the stack pointer of the mode.
func withRegisterIn(c api.Cpu, mode, n, v int) api.Cpu {
	v = word.Wrap(v)
	switch {
	case n == programCounter:
		c.PC = v
	case n == stackPointer:
		c.SP[mode] = v
	case n >= 0 && n < stackPointer:
		c.R[n] = v
	}
	return c
}

// register returns a general register in the current mode.
func (p *processor) register(n int) int { return Register(p.m.Cpu, n) }

// setRegister sets a general register in the current mode.
func (p *processor) setRegister(n, v int) { p.m.Cpu = SetRegister(p.m.Cpu, n, v) }

// skipWord moves PC past a word of the instruction.
func (p *processor) skipWord() { p.setRegister(programCounter, p.m.Cpu.PC+wordBytes) }

// translate returns the physical address of an access in the space of a mode. What the memory management unit keeps of the access remains even if the access itself has a trap.
func (p *processor) translate(mode, addr int, byte, write bool) int {
	if !byte && addr%wordBytes != 0 {
		p.trap = api.TrBus
		return 0
	}
	phys, u, t := mmu.Translate(p.m.Mmu, mode, addr, write)
	p.m.Mmu, p.trap = u, t
	return phys
}

// load returns what is read at an address in the space of a mode, and 0 after a trap.
func (p *processor) load(mode, addr int, byte bool) int {
	if p.trap != api.TrNone {
		return 0
	}
	phys := p.translate(mode, addr, byte, false)
	if p.trap != api.TrNone {
		return 0
	}
	m, v, t := bus.Read(p.m, phys, byte)
	p.m, p.trap, p.own = m, t, true
	return v
}

// store writes at an address in the space of a mode.
func (p *processor) store(mode, addr int, byte bool, v int) {
	if p.trap != api.TrNone {
		return
	}
	phys := p.translate(mode, addr, byte, true)
	if p.trap != api.TrNone {
		return
	}
	m, t := bus.Write(p.m, phys, byte, v)
	p.m, p.trap, p.own = m, t, true
}

// push pushes a word on the stack of the current mode.
func (p *processor) push(v int) {
	p.setRegister(stackPointer, p.register(stackPointer)-wordBytes)
	p.store(p.mode(), p.register(stackPointer), false, v)
}

// pop returns the word that is popped from the stack of the current mode.
func (p *processor) pop() int {
	sp := p.register(stackPointer)
	p.setRegister(stackPointer, sp+wordBytes)
	return p.load(p.mode(), sp, false)
}

// fetch returns the instruction at PC and the number of its words.
func (p *processor) fetch() (api.Inst, int) {
	var words [maxWords]int
	words[0] = p.load(p.mode(), p.m.Cpu.PC, false)
	// Every word can be an extension word: zeros in their places tell how many there are.
	i, n := inst.Decode(words[:])
	if p.trap == api.TrNone && (n == 0 || p.forbids(i)) {
		p.trap = api.TrIllegal
	}
	for k := 1; k < n; k++ {
		words[k] = p.load(p.mode(), p.m.Cpu.PC+k*wordBytes, false)
	}
	return inst.Decode(words[:])
}

// forbids reports whether an instruction is not allowed in the current mode.
func (p *processor) forbids(i api.Inst) bool {
	return p.mode() == api.User && inst.Privileged(i)
}

// enter enters a trap or an interrupt. The old registers are kept until the new mode, whose stack they are pushed on, is known.
func (p *processor) enter(vector int) {
	old := p.m.Cpu
	p.m.Cpu.PC = p.load(api.Kernel, vector, false)
	p.m.Cpu.PSW = psw.Enter(old.PSW, p.load(api.Kernel, vector+wordBytes, false))
	p.push(old.PSW)
	p.push(old.PC)
}
