package cpu

import (
	"emulator/alu"
	"emulator/api"
	"emulator/bus"
	"emulator/psw"
	"emulator/word"
)

// offsetBytes is the number of bytes by which an offset of 1 moves PC.
const offsetBytes = 2

// perform carries out a valid instruction; PC is behind its first word.
func (p *processor) perform(i api.Inst) {
	switch i.Op {
	case api.OpMov, api.OpCmp, api.OpBit, api.OpBic, api.OpBis, api.OpAdd, api.OpSub:
		p.double(i, p.read(p.evaluate(i.Src, i.Byte), i.Byte))
	case api.OpXor:
		p.double(i, p.register(i.Reg))
	case api.OpMul, api.OpDiv, api.OpAsh:
		p.long(i)
	case api.OpClr, api.OpCom, api.OpInc, api.OpDec, api.OpNeg, api.OpAdc, api.OpSbc, api.OpTst,
		api.OpRor, api.OpRol, api.OpAsr, api.OpAsl, api.OpSwab, api.OpSxt:
		p.single(i)
	case api.OpMfp:
		p.movFromPrevious(i.Src)
	case api.OpMtp:
		p.movToPrevious(i.Dst)
	case api.OpCcc:
		p.setFlags(p.flags() &^ i.Num)
	case api.OpScc:
		p.setFlags(p.flags() | i.Num)
	default:
		p.control(i)
	}
}

// double carries out an operation on two operands, given the value of the first one.
func (p *processor) double(i api.Inst, src int) {
	at := p.evaluate(i.Dst, i.Byte)
	dst := 0
	if i.Op != api.OpMov {
		dst = p.read(at, i.Byte)
	}
	r, codes, stored := alu.Double(i.Op, i.Byte, src, dst, p.flags())
	p.setFlags(codes)
	switch {
	case !stored:
	case i.Op == api.OpMov && i.Byte && at.isRegister:
		// movb alone changes the whole of a register.
		p.write(at, false, word.Extend(r))
	default:
		p.write(at, i.Byte, r)
	}
}

// single carries out an operation on one operand.
func (p *processor) single(i api.Inst) {
	at := p.evaluate(i.Dst, i.Byte)
	v := 0
	if i.Op != api.OpClr && i.Op != api.OpSxt {
		v = p.read(at, i.Byte)
	}
	r, codes, stored := alu.Single(i.Op, i.Byte, v, p.flags())
	p.setFlags(codes)
	if stored {
		p.write(at, i.Byte, r)
	}
}

// long carries out a multiplication, a division or a shift of a register.
func (p *processor) long(i api.Inst) {
	v := p.read(p.evaluate(i.Src, false), false)
	first, second, codes, stored := alu.Long(i.Op, p.register(i.Reg), p.register(i.Reg|1), v, p.flags())
	p.setFlags(codes)
	if !stored {
		return
	}
	p.setRegister(i.Reg, first)
	if i.Op != api.OpAsh {
		// If both are the same register, this word is left.
		p.setRegister(i.Reg|1, second)
	}
}

// movFromPrevious pushes a word of the space of the previous mode.
func (p *processor) movFromPrevious(src api.Operand) {
	at := p.evaluate(src, false)
	at.mode = p.previous()
	v := p.read(at, false)
	p.push(v)
	p.setFlagsOf(v)
}

// movToPrevious pops a word and writes it in the space of the previous mode.
func (p *processor) movToPrevious(dst api.Operand) {
	v := p.pop()
	at := p.evaluate(dst, false)
	at.mode = p.previous()
	p.write(at, false, v)
	p.setFlagsOf(v)
}

// setFlagsOf sets the condition codes as mov does.
func (p *processor) setFlagsOf(v int) {
	_, codes, _ := alu.Double(api.OpMov, false, v, 0, p.flags())
	p.setFlags(codes)
}

// control carries out an operation that changes the flow of instructions or the machine as a whole.
func (p *processor) control(i api.Inst) {
	switch i.Op {
	case api.OpJmp:
		p.setRegister(programCounter, p.address(i.Dst, false))
	case api.OpJsr:
		p.callRoutine(i)
	case api.OpRts:
		p.returnFromRoutine(i.Reg)
	case api.OpSob:
		p.countDown(i)
	case api.OpRti:
		p.returnFromTrap()
	case api.OpHalt:
		p.m.Halted = true
	case api.OpWait:
		p.m.Waiting = true
	case api.OpRset:
		p.m, p.own = bus.Reset(p.m), true
	case api.OpEmt:
		p.trap = api.TrEmt
	case api.OpTrap:
		p.trap = api.TrTrap
	case api.OpBpt:
		p.trap = api.TrBpt
	case api.OpIot:
		p.trap = api.TrIot
	default:
		p.branch(i)
	}
}

// branch moves PC if the condition codes ask for it.
func (p *processor) branch(i api.Inst) {
	if alu.Taken(i.Op, p.flags()) {
		p.setRegister(programCounter, p.m.Cpu.PC+offsetBytes*i.Num)
	}
}

// countDown decreases a register and goes back unless it is 0 then.
func (p *processor) countDown(i api.Inst) {
	p.setRegister(i.Reg, p.register(i.Reg)-1)
	if p.register(i.Reg) != 0 {
		p.setRegister(programCounter, p.m.Cpu.PC-offsetBytes*i.Num)
	}
}

// callRoutine leaves PC in a register, whose old value goes to the stack, and goes to an address.
func (p *processor) callRoutine(i api.Inst) {
	addr := p.address(i.Dst, false)
	p.push(p.register(i.Reg))
	p.setRegister(i.Reg, p.m.Cpu.PC)
	p.setRegister(programCounter, addr)
}

// returnFromRoutine goes to the address in a register, which becomes what it was before the call.
func (p *processor) returnFromRoutine(n int) {
	p.setRegister(programCounter, p.register(n))
	p.setRegister(n, p.pop())
}

// returnFromTrap pops the registers that were pushed when a trap was entered. The mode changes only when both have been popped.
func (p *processor) returnFromTrap() {
	p.setRegister(programCounter, p.pop())
	p.m.Cpu.PSW = psw.Return(p.m.Cpu.PSW, p.pop())
}
