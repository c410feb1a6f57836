package cpu

import (
	"emulator/api"
	"emulator/operand"
)

// The addressing modes that are evaluated in a way of their own: a register, and, with PC, an immediate and an absolute operand.
const (
	registerMode  = 0
	immediateMode = 2
	absoluteMode  = 3
)

const lowByte = 255

// place is where an operand is: in a general register, or at an address, which is taken modulo 65536 when it is used. The mode is that of the space of the address; register 6 is the stack pointer of the mode.
type place struct {
	isRegister bool
	number     int
	mode       int
}

// evaluate returns the place of an operand.
func (p *processor) evaluate(o api.Operand, byte bool) place {
	if o.Mode == registerMode {
		return place{isRegister: true, number: o.Reg, mode: p.mode()}
	}
	return place{number: p.address(o, byte), mode: p.mode()}
}

// address returns the address that an operand denotes.
func (p *processor) address(o api.Operand, byte bool) int {
	if operand.Extended(o) {
		return p.extendedAddress(o)
	}
	r, step := p.register(o.Reg), operand.Step(o, byte)
	p.setRegister(o.Reg, r+step)
	// A register decreases before it is used, but increases afterwards.
	return p.follow(o, r+min(step, 0))
}

// extendedAddress returns the address that an operand with an extension word denotes.
func (p *processor) extendedAddress(o api.Operand) int {
	at := p.m.Cpu.PC
	p.skipWord()
	switch o.Mode {
	case immediateMode:
		return at
	case absoluteMode:
		return o.Ext
	}
	return p.follow(o, o.Ext+p.register(o.Reg))
}

// follow returns the address that an operand denotes, given that to which its register leads: a deferred operand has its address there.
func (p *processor) follow(o api.Operand, addr int) int {
	if operand.Deferred(o) {
		return p.load(p.mode(), addr, false)
	}
	return addr
}

// read returns what is at a place. Of a register that contains a byte operand, it returns the whole: the operations take the low byte themselves.
func (p *processor) read(at place, byte bool) int {
	if at.isRegister {
		return registerIn(p.m.Cpu, at.mode, at.number)
	}
	return p.load(at.mode, at.number, byte)
}

// write writes to a place. A byte leaves the high byte of a register as it is.
func (p *processor) write(at place, byte bool, v int) {
	if !at.isRegister {
		p.store(at.mode, at.number, byte, v)
		return
	}
	if byte {
		v |= registerIn(p.m.Cpu, at.mode, at.number) &^ lowByte
	}
	p.m.Cpu = withRegisterIn(p.m.Cpu, at.mode, at.number, v)
}
