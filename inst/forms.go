package inst

import (
	"math/bits"

	"emulator/api"
	"emulator/operand"
)

// form describes operations whose first words are built alike. Their numbers in package api follow one another.
type form struct {
	first, last api.Op
	word        int // of the first operation, with 0 in all fields
	at          int // the lowest of the bits that tell the operations apart
	fields      layout
}

// layout has the bits of a first word in which the fields of an instruction stand; a field without bits is not used.
type layout struct {
	byte, src, dst, reg, num int
	least                    int // the least Num; the greatest one is num above it
}

// forms has every operation, each in one row.
var forms = []form{
	{api.OpMov, api.OpBis, 0o010000, 12, layout{byte: 0o100000, src: 0o007700, dst: 0o000077}},
	{api.OpAdd, api.OpSub, 0o060000, 15, layout{src: 0o007700, dst: 0o000077}},
	{api.OpMul, api.OpAsh, 0o070000, 9, layout{reg: 0o000700, src: 0o000077}},
	{api.OpXor, api.OpXor, 0o074000, 0, layout{reg: 0o000700, dst: 0o000077}},
	{api.OpClr, api.OpTst, 0o005000, 6, layout{byte: 0o100000, dst: 0o000077}},
	{api.OpRor, api.OpAsl, 0o006000, 6, layout{byte: 0o100000, dst: 0o000077}},
	{api.OpSwab, api.OpSwab, 0o000300, 0, layout{dst: 0o000077}},
	{api.OpSxt, api.OpSxt, 0o006700, 0, layout{dst: 0o000077}},
	{api.OpMfp, api.OpMfp, 0o006500, 0, layout{src: 0o000077}},
	{api.OpMtp, api.OpMtp, 0o006600, 0, layout{dst: 0o000077}},
	{api.OpJmp, api.OpJmp, 0o000100, 0, layout{dst: 0o000077}},
	{api.OpJsr, api.OpJsr, 0o004000, 0, layout{reg: 0o000700, dst: 0o000077}},
	{api.OpRts, api.OpRts, 0o000200, 0, layout{reg: 0o000007}},
	{api.OpSob, api.OpSob, 0o077000, 0, layout{reg: 0o000700, num: 0o000077}},
	{api.OpBr, api.OpBle, 0o000400, 8, layout{num: 0o000377, least: -128}},
	{api.OpBpl, api.OpBcs, 0o100000, 8, layout{num: 0o000377, least: -128}},
	{api.OpEmt, api.OpTrap, 0o104000, 8, layout{num: 0o000377}},
	{api.OpCcc, api.OpScc, 0o000240, 4, layout{num: 0o000017}},
	{api.OpHalt, api.OpWait, 0o000000, 0, layout{}},
	{api.OpRti, api.OpRti, 0o000002, 0, layout{}},
	{api.OpBpt, api.OpIot, 0o000003, 0, layout{}},
	{api.OpRset, api.OpRset, 0o000005, 0, layout{}},
}

// formOf returns the form of an operation.
func formOf(op api.Op) (form, bool) {
	for k := range forms {
		if forms[k].first <= op && op <= forms[k].last {
			return forms[k], true
		}
	}
	return form{}, false
}

// read returns the instruction of a first word, without extension words, and its form. The instruction need not be valid.
func read(w int) (api.Inst, form, bool) {
	for k := range forms {
		if op, ok := forms[k].operation(w); ok {
			i := forms[k].fields.read(w)
			i.Op = op
			return i, forms[k], true
		}
	}
	return api.Inst{}, form{}, false
}

// operation returns the operation of a first word that has this form.
func (f form) operation(w int) (api.Op, bool) {
	rest := w&^f.fields.bits() - f.word
	if rest < 0 || rest&(1<<f.at-1) != 0 {
		return api.OpNone, false
	}
	op := f.first + api.Op(rest>>f.at)
	return op, op <= f.last
}

// write returns the first word of a valid instruction.
func (f form) write(i api.Inst) int {
	return f.word + int(i.Op-f.first)<<f.at + f.fields.write(i)
}

// bits returns the bits of all fields.
func (l layout) bits() int {
	return l.byte | l.src | l.dst | l.reg | l.num
}

// read returns the fields that stand in a first word.
func (l layout) read(w int) api.Inst {
	return api.Inst{
		Byte: w&l.byte != 0,
		Src:  operand.From(take(w, l.src)),
		Dst:  operand.From(take(w, l.dst)),
		Reg:  take(w, l.reg),
		Num:  l.number(take(w, l.num)),
	}
}

// write returns a word with the fields of an instruction.
func (l layout) write(i api.Inst) int {
	w := place(operand.Field(i.Src), l.src) | place(operand.Field(i.Dst), l.dst) | place(i.Reg, l.reg) | place(i.Num, l.num)
	if i.Byte {
		w |= l.byte
	}
	return w
}

// number returns the Num whose bits are n. If the least Num is below 0, the greatest bits stand for the numbers from there to -1.
func (l layout) number(n int) int {
	if n > l.least+l.num {
		return n - l.num - 1
	}
	return n
}

// holds reports whether the fields of an instruction are in their ranges, and those that are not used are zero.
func (l layout) holds(i api.Inst) bool {
	return (l.byte != 0 || !i.Byte) &&
		holdsOperand(i.Src, l.src) && holdsOperand(i.Dst, l.dst) &&
		i.Reg >= 0 && i.Reg <= take(l.reg, l.reg) &&
		i.Num >= l.least && i.Num <= l.least+l.num
}

// holdsOperand reports whether an operand can stand in a field with these bits.
func holdsOperand(o api.Operand, field int) bool {
	if field == 0 {
		return o == api.Operand{}
	}
	return operand.Valid(o)
}

// take returns the number in the bits of a field; it is 0 if the field has none.
func take(w, field int) int {
	return w & field >> bits.TrailingZeros(uint(field))
}

// place returns a word with a number in the bits of a field; it is 0 if the field has none.
func place(n, field int) int {
	return n << bits.TrailingZeros(uint(field)) & field
}
