package disasm

import (
	"emulator/api"
	"emulator/inst"
)

// registers has the names of the registers.
var registers = [...]string{"r0", "r1", "r2", "r3", "r4", "r5", "sp", "pc"}

// mnemonics has the mnemonics of the operations, without their byte forms.
var mnemonics = [...]string{
	api.OpMov: "mov", api.OpCmp: "cmp", api.OpBit: "bit", api.OpBic: "bic", api.OpBis: "bis",
	api.OpAdd: "add", api.OpSub: "sub",
	api.OpMul: "mul", api.OpDiv: "div", api.OpAsh: "ash",
	api.OpXor: "xor",
	api.OpClr: "clr", api.OpCom: "com", api.OpInc: "inc", api.OpDec: "dec",
	api.OpNeg: "neg", api.OpAdc: "adc", api.OpSbc: "sbc", api.OpTst: "tst",
	api.OpRor: "ror", api.OpRol: "rol", api.OpAsr: "asr", api.OpAsl: "asl",
	api.OpSwab: "swab", api.OpSxt: "sxt",
	api.OpBr: "br", api.OpBne: "bne", api.OpBeq: "beq", api.OpBge: "bge",
	api.OpBlt: "blt", api.OpBgt: "bgt", api.OpBle: "ble",
	api.OpBpl: "bpl", api.OpBmi: "bmi", api.OpBhi: "bhi", api.OpBlos: "blos",
	api.OpBvc: "bvc", api.OpBvs: "bvs", api.OpBcc: "bcc", api.OpBcs: "bcs",
	api.OpJmp: "jmp", api.OpJsr: "jsr", api.OpRts: "rts", api.OpSob: "sob",
	api.OpEmt: "emt", api.OpTrap: "trap", api.OpBpt: "bpt", api.OpIot: "iot", api.OpRti: "rti",
	api.OpHalt: "halt", api.OpWait: "wait", api.OpRset: "reset",
	api.OpCcc: "ccc", api.OpScc: "scc",
	api.OpMfp: "mfp", api.OpMtp: "mtp",
}

// abbreviation is the mnemonic of an operation on certain condition codes.
type abbreviation struct {
	name  string
	op    api.Op
	codes int
}

var abbreviations = [...]abbreviation{
	{"nop", api.OpCcc, 0},
	{"clc", api.OpCcc, 1}, {"clv", api.OpCcc, 2}, {"clz", api.OpCcc, 4}, {"cln", api.OpCcc, 8},
	{"sec", api.OpScc, 1}, {"sev", api.OpScc, 2}, {"sez", api.OpScc, 4}, {"sen", api.OpScc, 8},
}

// meaning is what a mnemonic stands for.
type meaning struct {
	op   api.Op
	byte bool
}

// Name returns the mnemonic of an operation.
func Name(op api.Op, byte bool) string {
	if op <= api.OpNone || int(op) >= len(mnemonics) {
		return ""
	}
	if !byte {
		return mnemonics[op]
	}
	if !hasByteForm(op) {
		return ""
	}
	return mnemonics[op] + "b"
}

// ByName returns the operation of a mnemonic, and whether it works on bytes.
func ByName(s string) (api.Op, bool, bool) {
	m, ok := meanings()[s]
	return m.op, m.byte, ok
}

// meanings returns what the mnemonics stand for.
func meanings() map[string]meaning {
	all := make(map[string]meaning, 2*len(mnemonics))
	for op := range api.Op(len(mnemonics)) {
		for _, byte := range [...]bool{false, true} {
			if s := Name(op, byte); s != "" {
				all[s] = meaning{op, byte}
			}
		}
	}
	for _, a := range abbreviations {
		all[a.name] = meaning{op: a.op}
	}
	return all
}

// hasByteForm reports whether an operation has a byte form. All operations that have one take register 0, the zero operand, in each of their operands.
func hasByteForm(op api.Op) bool {
	return inst.Valid(api.Inst{Op: op, Byte: true})
}

// abbreviated returns the shorter mnemonic of an instruction that changes condition codes, if there is one.
func abbreviated(i api.Inst) (string, bool) {
	for _, a := range abbreviations {
		if a.op == i.Op && a.codes == i.Num {
			return a.name, true
		}
	}
	return "", false
}
