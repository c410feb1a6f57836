package inst_test

import (
	"math"
	"slices"
	"strings"
	"testing"

	"emulator/api"
	"emulator/inst"
)

// row is an operation: its first word with 0 in all fields, and its fields: b (Byte), s (Src), d (Dst), r (Reg) and n (Num, with its least and its greatest one).
type row struct {
	op          api.Op
	word        int
	fields      string
	least, most int
}

// uses reports whether an operation uses a field.
func (r row) uses(field string) bool {
	return strings.Contains(r.fields, field)
}

// table returns the rows of the table of words in DOC.md, with the fields of chapter 6.
func table() []row {
	var all []row
	add := func(fields string, least, most int, words []int, ops ...api.Op) {
		for k, op := range ops {
			all = append(all, row{op, words[k], fields, least, most})
		}
	}
	add("bsd", 0, 0, []int{0o010000, 0o020000, 0o030000, 0o040000, 0o050000}, api.OpMov, api.OpCmp, api.OpBit, api.OpBic, api.OpBis)
	add("sd", 0, 0, []int{0o060000, 0o160000}, api.OpAdd, api.OpSub)
	add("rs", 0, 0, []int{0o070000, 0o071000, 0o072000}, api.OpMul, api.OpDiv, api.OpAsh)
	add("rd", 0, 0, []int{0o074000}, api.OpXor)
	add("bd", 0, 0, []int{0o005000, 0o005100, 0o005200, 0o005300, 0o005400, 0o005500, 0o005600, 0o005700}, api.OpClr, api.OpCom, api.OpInc, api.OpDec, api.OpNeg, api.OpAdc, api.OpSbc, api.OpTst)
	add("bd", 0, 0, []int{0o006000, 0o006100, 0o006200, 0o006300}, api.OpRor, api.OpRol, api.OpAsr, api.OpAsl)
	add("d", 0, 0, []int{0o000300, 0o006700}, api.OpSwab, api.OpSxt)
	add("s", 0, 0, []int{0o006500}, api.OpMfp)
	add("d", 0, 0, []int{0o006600}, api.OpMtp)
	add("d", 0, 0, []int{0o000100}, api.OpJmp)
	add("rd", 0, 0, []int{0o004000}, api.OpJsr)
	add("r", 0, 0, []int{0o000200}, api.OpRts)
	add("rn", 0, 63, []int{0o077000}, api.OpSob)
	add("n", -128, 127, []int{0o000400, 0o001000, 0o001400, 0o002000, 0o002400, 0o003000, 0o003400}, api.OpBr, api.OpBne, api.OpBeq, api.OpBge, api.OpBlt, api.OpBgt, api.OpBle)
	add("n", -128, 127, []int{0o100000, 0o100400, 0o101000, 0o101400, 0o102000, 0o102400, 0o103000, 0o103400}, api.OpBpl, api.OpBmi, api.OpBhi, api.OpBlos, api.OpBvc, api.OpBvs, api.OpBcc, api.OpBcs)
	add("n", 0, 255, []int{0o104000, 0o104400}, api.OpEmt, api.OpTrap)
	add("n", 0, 15, []int{0o000240, 0o000260}, api.OpCcc, api.OpScc)
	add("", 0, 0, []int{0, 1, 2, 3, 4, 5}, api.OpHalt, api.OpWait, api.OpRti, api.OpBpt, api.OpIot, api.OpRset)
	return all
}

// rows has the table, and rowOf its rows by their operations.
var (
	rows  = table()
	rowOf = byOperation(rows)
)

// byOperation returns rows by their operations.
func byOperation(all []row) map[api.Op]row {
	m := map[api.Op]row{}
	for _, r := range all {
		m[r.op] = r
	}
	return m
}

// hasExtension tells whether an operand with a mode and a register from 0 to 7 has an extension word.
func hasExtension(o api.Operand) bool {
	return o.Mode >= 6 || o.Mode >= 2 && o.Mode <= 3 && o.Reg == 7
}

// wantOperand tells whether an operand may stand in an instruction that uses it or does not.
func wantOperand(o api.Operand, used bool) bool {
	if !used {
		return o.Mode == 0 && o.Reg == 0 && o.Ext == 0
	}
	if o.Mode < 0 || o.Mode > 7 || o.Reg < 0 || o.Reg > 7 {
		return false
	}
	return o.Ext == 0 || hasExtension(o) && o.Ext > 0 && o.Ext < 65536
}

// wantValid tells whether an instruction is valid.
func wantValid(i api.Inst) bool {
	r, ok := rowOf[i.Op]
	if !ok || i.Byte && !r.uses("b") {
		return false
	}
	if !wantOperand(i.Src, r.uses("s")) || !wantOperand(i.Dst, r.uses("d")) {
		return false
	}
	if i.Reg != 0 && !r.uses("r") || i.Reg < 0 || i.Reg > 7 || i.Num < r.least || i.Num > r.most {
		return false
	}
	switch i.Op {
	case api.OpDiv:
		return i.Reg == 0 || i.Reg == 2 || i.Reg == 4 || i.Reg == 6
	case api.OpJmp, api.OpJsr:
		return i.Dst.Mode != 0
	}
	return true
}

// wantWords returns the words of a valid instruction.
func wantWords(i api.Inst) []int {
	r := rowOf[i.Op]
	first := r.word
	if i.Byte {
		first += 32768
	}
	source := 8*i.Src.Mode + i.Src.Reg
	if r.uses("d") {
		source *= 64
	}
	reg := 64 * i.Reg
	if i.Op == api.OpRts {
		reg = i.Reg
	}
	number := i.Num
	if number < 0 {
		number += 256
	}
	l := []int{first + source + 8*i.Dst.Mode + i.Dst.Reg + reg + number}
	if hasExtension(i.Src) {
		l = append(l, i.Src.Ext)
	}
	if hasExtension(i.Dst) {
		l = append(l, i.Dst.Ext)
	}
	return l
}

// operands returns all operands of a field that is used, with an extension word where they have one, or the zero operand.
func operands(used bool, ext int) []api.Operand {
	if !used {
		return []api.Operand{{}}
	}
	var all []api.Operand
	for mode := range 8 {
		for reg := range 8 {
			o := api.Operand{Mode: mode, Reg: reg}
			if hasExtension(o) {
				o.Ext = ext
			}
			all = append(all, o)
		}
	}
	return all
}

// instructions returns all valid instructions whose extension words are these.
func instructions(source, destination int) []api.Inst {
	var all []api.Inst
	for _, r := range rows {
		regs := 1
		if r.uses("r") {
			regs = 8
		}
		for _, src := range operands(r.uses("s"), source) {
			for _, dst := range operands(r.uses("d"), destination) {
				for reg := range regs {
					for num := r.least; num <= r.most; num++ {
						all = append(all, api.Inst{Op: r.op, Src: src, Dst: dst, Reg: reg, Num: num})
						if r.uses("b") {
							all = append(all, api.Inst{Op: r.op, Byte: true, Src: src, Dst: dst, Reg: reg, Num: num})
						}
					}
				}
			}
		}
	}
	return slices.DeleteFunc(all, func(i api.Inst) bool {
		return i.Op == api.OpDiv && i.Reg%2 == 1 || (i.Op == api.OpJmp || i.Op == api.OpJsr) && i.Dst.Mode == 0
	})
}

// instructionWords is the number of words that begin an instruction: 10 double operations of 4096 words and 2 more, mul and ash of 512 and div of 256, xor, 12 single ones of 64 in two forms, swab, sxt, mfp and mtp, jmp of 56 and jsr of 448, rts, sob, 15 branches, emt and trap, ccc and scc, and 6 without fields.
const instructionWords = 12*4096 + 2*512 + 256 + 512 + 24*64 + 4*64 + 56 + 448 + 8 + 512 + 15*256 + 2*256 + 2*16 + 6

// byWord returns the valid instructions by their first words. No word may belong to two of them.
func byWord(t *testing.T, source, destination int) map[int]api.Inst {
	t.Helper()
	m := map[int]api.Inst{}
	for _, i := range instructions(source, destination) {
		first := wantWords(i)[0]
		if other, ok := m[first]; ok {
			t.Fatalf("%#o belongs to %+v and to %+v", first, other, i)
		}
		m[first] = i
	}
	if len(m) != instructionWords {
		t.Fatalf("%d words begin an instruction, want %d", len(m), instructionWords)
	}
	return m
}

// notWords has integers that are no words; some of them are words modulo 65536.
var notWords = []int{-1, -2, -240, -32768, -65535, -65536, -65531, 65536, 65537, 65536 + 0o012701, 65536 + 0o005000, 131072, 1 << 31, 1<<32 + 5, 1 << 40, 1<<62 + 3, math.MaxInt, math.MinInt, math.MinInt + 5}

// extensions has words at whose ends signs and sizes change.
var extensions = []int{0, 1, 2, 5, 255, 256, 32767, 32768, 65534, 65535}

func reg(r int) api.Operand         { return api.Operand{Reg: r} }
func mode(m, r int) api.Operand     { return api.Operand{Mode: m, Reg: r} }
func ext(m, r, x int) api.Operand   { return api.Operand{Mode: m, Reg: r, Ext: x} }
func immediate(x int) api.Operand   { return ext(2, 7, x) }
func isNone(i api.Inst, n int) bool { return i == api.Inst{} && n == 0 }

// checkDecode checks that Decode finds an instruction and its number of words in l, and leaves l as it is.
func checkDecode(t *testing.T, l []int, want api.Inst, length int) {
	t.Helper()
	before := slices.Clone(l)
	if i, n := inst.Decode(l); i != want || n != length {
		t.Fatalf("Decode(%#o) = %+v, %d, want %+v, %d", l, i, n, want, length)
	}
	if !slices.Equal(l, before) {
		t.Fatalf("Decode has changed %#o to %#o", before, l)
	}
}

// checkNoDecode checks that Decode finds no instruction in l.
func checkNoDecode(t *testing.T, l []int) {
	t.Helper()
	if i, n := inst.Decode(l); !isNone(i, n) {
		t.Fatalf("Decode(%#o) = %+v, %d, want none", l, i, n)
	}
}

// checkEncode checks the words and the length of a valid instruction.
func checkEncode(t *testing.T, i api.Inst, want []int) {
	t.Helper()
	if !inst.Valid(i) {
		t.Fatalf("Valid(%+v) is false", i)
	}
	if l, e := inst.Encode(i); !slices.Equal(l, want) || e != api.OK {
		t.Fatalf("Encode(%+v) = %#o, %d, want %#o", i, l, e, want)
	}
	if n := inst.Length(i); n != len(want) {
		t.Fatalf("Length(%+v) = %d, want %d", i, n, len(want))
	}
}

// checkNotValid checks that all functions reject an instruction.
func checkNotValid(t *testing.T, i api.Inst) {
	t.Helper()
	if inst.Valid(i) {
		t.Fatalf("Valid(%+v) is true", i)
	}
	if l, e := inst.Encode(i); len(l) != 0 || e != api.ErrArg {
		t.Fatalf("Encode(%+v) = %#o, %d, want ErrArg", i, l, e)
	}
	if n := inst.Length(i); n != 0 {
		t.Fatalf("Length(%+v) = %d, want 0", i, n)
	}
	if inst.Ends(i) || inst.Privileged(i) {
		t.Fatalf("Ends(%+v) = %v, Privileged = %v, want false for both", i, inst.Ends(i), inst.Privileged(i))
	}
}

// checkBoth checks both directions.
func checkBoth(t *testing.T, i api.Inst, l []int) {
	t.Helper()
	checkEncode(t, i, l)
	checkDecode(t, l, i, len(l))
}

// P6.1 and P6.3: words and instructions that are written by hand

func TestExamples(t *testing.T) {
	checkBoth(t, api.Inst{Op: api.OpMov, Src: immediate(5), Dst: reg(1)}, []int{0o012701, 5})
	checkNoDecode(t, []int{0o012701})
	checkBoth(t, api.Inst{Op: api.OpBr, Num: -1}, []int{0o000777})
	checkNoDecode(t, []int{0o000100})
	checkNoDecode(t, []int{0o071102})
	checkNotValid(t, api.Inst{Op: api.OpDiv, Reg: 1, Src: reg(2)})
	checkBoth(t, api.Inst{Op: api.OpDiv, Src: reg(2)}, []int{0o071002})
	checkBoth(t, api.Inst{Op: api.OpCcc}, []int{0o000240})
	checkBoth(t, api.Inst{Op: api.OpMov, Src: ext(6, 7, 4), Dst: ext(3, 7, 6)}, []int{0o016737, 4, 6})
}

func TestDoubleOperands(t *testing.T) {
	for _, k := range []struct {
		i api.Inst
		l []int
	}{
		{api.Inst{Op: api.OpMov}, []int{0o010000}},
		{api.Inst{Op: api.OpMov, Src: reg(7), Dst: mode(5, 7)}, []int{0o010757}},
		{api.Inst{Op: api.OpMov, Src: ext(7, 7, 65535), Dst: ext(7, 7, 32768)}, []int{0o017777, 65535, 32768}},
		{api.Inst{Op: api.OpMov, Src: reg(3), Dst: immediate(9)}, []int{0o010327, 9}},
		{api.Inst{Op: api.OpMov, Byte: true, Src: mode(2, 0), Dst: mode(2, 1)}, []int{0o112021}},
		{api.Inst{Op: api.OpCmp, Src: immediate(0), Dst: ext(6, 6, 2)}, []int{0o022766, 0, 2}},
		{api.Inst{Op: api.OpCmp, Byte: true, Src: reg(1), Dst: reg(2)}, []int{0o120102}},
		{api.Inst{Op: api.OpBit, Src: mode(1, 1), Dst: reg(2)}, []int{0o031102}},
		{api.Inst{Op: api.OpBit, Byte: true, Src: mode(4, 6), Dst: reg(2)}, []int{0o134602}},
		{api.Inst{Op: api.OpBic, Src: immediate(15), Dst: reg(0)}, []int{0o042700, 15}},
		{api.Inst{Op: api.OpBic, Byte: true, Src: reg(7), Dst: reg(7)}, []int{0o140707}},
		{api.Inst{Op: api.OpBis, Src: reg(0), Dst: ext(3, 7, 0o177776)}, []int{0o050037, 0o177776}},
		{api.Inst{Op: api.OpBis, Byte: true, Src: reg(0), Dst: mode(3, 6)}, []int{0o150036}},
		{api.Inst{Op: api.OpAdd, Src: ext(6, 1, 4), Dst: ext(7, 2, 8)}, []int{0o066172, 4, 8}},
		{api.Inst{Op: api.OpSub, Src: immediate(2), Dst: reg(6)}, []int{0o162706, 2}},
		{api.Inst{Op: api.OpMul, Reg: 7, Src: reg(7)}, []int{0o070707}},
		{api.Inst{Op: api.OpMul, Src: immediate(3)}, []int{0o070027, 3}},
		{api.Inst{Op: api.OpDiv, Reg: 6, Src: mode(5, 1)}, []int{0o071651}},
		{api.Inst{Op: api.OpAsh, Reg: 1, Src: ext(7, 3, 65535)}, []int{0o072173, 65535}},
		{api.Inst{Op: api.OpXor, Reg: 7, Dst: ext(6, 7, 1)}, []int{0o074767, 1}},
		{api.Inst{Op: api.OpXor, Dst: reg(1)}, []int{0o074001}},
	} {
		checkBoth(t, k.i, k.l)
	}
}

func TestSingleOperands(t *testing.T) {
	for _, k := range []struct {
		op         api.Op
		word, byte int
	}{
		{api.OpClr, 0o005067, 0o105067}, {api.OpCom, 0o005167, 0o105167}, {api.OpInc, 0o005267, 0o105267}, {api.OpDec, 0o005367, 0o105367},
		{api.OpNeg, 0o005467, 0o105467}, {api.OpAdc, 0o005567, 0o105567}, {api.OpSbc, 0o005667, 0o105667}, {api.OpTst, 0o005767, 0o105767},
		{api.OpRor, 0o006067, 0o106067}, {api.OpRol, 0o006167, 0o106167}, {api.OpAsr, 0o006267, 0o106267}, {api.OpAsl, 0o006367, 0o106367},
	} {
		checkBoth(t, api.Inst{Op: k.op, Dst: ext(6, 7, 1000)}, []int{k.word, 1000})
		checkBoth(t, api.Inst{Op: k.op, Byte: true, Dst: ext(6, 7, 65535)}, []int{k.byte, 65535})
		checkBoth(t, api.Inst{Op: k.op, Dst: mode(4, 3)}, []int{k.word - 0o67 + 0o43})
		checkBoth(t, api.Inst{Op: k.op, Byte: true, Dst: reg(7)}, []int{k.byte - 0o67 + 0o07})
	}
	for _, k := range []struct {
		op   api.Op
		word int
	}{{api.OpSwab, 0o000312}, {api.OpSxt, 0o006712}, {api.OpMtp, 0o006612}, {api.OpJmp, 0o000112}} {
		checkBoth(t, api.Inst{Op: k.op, Dst: mode(1, 2)}, []int{k.word})
		checkBoth(t, api.Inst{Op: k.op, Dst: ext(7, 7, 6)}, []int{k.word + 0o65, 6})
	}
	checkBoth(t, api.Inst{Op: api.OpMfp, Src: mode(1, 2)}, []int{0o006512})
	checkBoth(t, api.Inst{Op: api.OpMfp, Src: immediate(65535)}, []int{0o006527, 65535})
	checkBoth(t, api.Inst{Op: api.OpJsr, Reg: 7, Dst: ext(3, 7, 512)}, []int{0o004737, 512})
	checkBoth(t, api.Inst{Op: api.OpJsr, Reg: 0, Dst: mode(1, 0)}, []int{0o004010})
	checkBoth(t, api.Inst{Op: api.OpRts, Reg: 0}, []int{0o000200})
	checkBoth(t, api.Inst{Op: api.OpRts, Reg: 7}, []int{0o000207})
}

func TestNumbers(t *testing.T) {
	for _, k := range []struct {
		op                       api.Op
		zero, most, least, minus int
	}{
		{api.OpBr, 0o000400, 0o000577, 0o000600, 0o000777}, {api.OpBne, 0o001000, 0o001177, 0o001200, 0o001377}, {api.OpBeq, 0o001400, 0o001577, 0o001600, 0o001777}, {api.OpBge, 0o002000, 0o002177, 0o002200, 0o002377}, {api.OpBlt, 0o002400, 0o002577, 0o002600, 0o002777}, {api.OpBgt, 0o003000, 0o003177, 0o003200, 0o003377}, {api.OpBle, 0o003400, 0o003577, 0o003600, 0o003777},
		{api.OpBpl, 0o100000, 0o100177, 0o100200, 0o100377}, {api.OpBmi, 0o100400, 0o100577, 0o100600, 0o100777}, {api.OpBhi, 0o101000, 0o101177, 0o101200, 0o101377}, {api.OpBlos, 0o101400, 0o101577, 0o101600, 0o101777}, {api.OpBvc, 0o102000, 0o102177, 0o102200, 0o102377}, {api.OpBvs, 0o102400, 0o102577, 0o102600, 0o102777}, {api.OpBcc, 0o103000, 0o103177, 0o103200, 0o103377}, {api.OpBcs, 0o103400, 0o103577, 0o103600, 0o103777},
	} {
		checkBoth(t, api.Inst{Op: k.op}, []int{k.zero})
		checkBoth(t, api.Inst{Op: k.op, Num: 127}, []int{k.most})
		checkBoth(t, api.Inst{Op: k.op, Num: -128}, []int{k.least})
		checkBoth(t, api.Inst{Op: k.op, Num: -1}, []int{k.minus})
	}
	for _, k := range []struct {
		i    api.Inst
		word int
	}{
		{api.Inst{Op: api.OpSob}, 0o077000}, {api.Inst{Op: api.OpSob, Num: 63}, 0o077077}, {api.Inst{Op: api.OpSob, Reg: 7, Num: 1}, 0o077701}, {api.Inst{Op: api.OpSob, Reg: 7, Num: 63}, 0o077777},
		{api.Inst{Op: api.OpEmt}, 0o104000}, {api.Inst{Op: api.OpEmt, Num: 128}, 0o104200}, {api.Inst{Op: api.OpEmt, Num: 255}, 0o104377},
		{api.Inst{Op: api.OpTrap}, 0o104400}, {api.Inst{Op: api.OpTrap, Num: 128}, 0o104600}, {api.Inst{Op: api.OpTrap, Num: 255}, 0o104777},
		{api.Inst{Op: api.OpCcc}, 0o000240}, {api.Inst{Op: api.OpCcc, Num: 1}, 0o000241}, {api.Inst{Op: api.OpCcc, Num: 15}, 0o000257},
		{api.Inst{Op: api.OpScc}, 0o000260}, {api.Inst{Op: api.OpScc, Num: 8}, 0o000270}, {api.Inst{Op: api.OpScc, Num: 15}, 0o000277},
		{api.Inst{Op: api.OpHalt}, 0}, {api.Inst{Op: api.OpWait}, 1}, {api.Inst{Op: api.OpRti}, 2}, {api.Inst{Op: api.OpBpt}, 3}, {api.Inst{Op: api.OpIot}, 4}, {api.Inst{Op: api.OpRset}, 5},
	} {
		checkBoth(t, k.i, []int{k.word})
	}
}

// P6.1

func TestDecodeEveryWord(t *testing.T) {
	for _, x := range [][2]int{{0, 0}, {5, 32768}, {65535, 1}} {
		known := byWord(t, x[0], x[1])
		for w := range 65536 {
			want, ok := known[w]
			if !ok {
				checkNoDecode(t, []int{w})
				checkNoDecode(t, []int{w, x[0], x[1], 0})
				continue
			}
			l := wantWords(want)
			checkDecode(t, l, want, len(l))
			for n := range len(l) {
				checkNoDecode(t, l[:n:n])
			}
		}
	}
}

func TestDecodeIgnoresFurtherWords(t *testing.T) {
	for _, want := range instructions(7, 65535) {
		l := wantWords(want)
		for _, further := range [][]int{{0}, {65535, 1}, {-1}, {65536}, {math.MinInt, 2, 3, 4}, {0o012701, 5}} {
			checkDecode(t, append(slices.Clone(l), further...), want, len(l))
		}
	}
}

func TestDecodeNeedsWords(t *testing.T) {
	checkNoDecode(t, nil)
	checkNoDecode(t, []int{})
	for _, x := range notWords {
		checkNoDecode(t, []int{x})
		checkNoDecode(t, []int{x, 0, 0})
		checkNoDecode(t, []int{x, x, x})
	}
	for _, i := range instructions(3, 4) {
		l := wantWords(i)
		for at := 1; at < len(l); at++ {
			for _, x := range notWords {
				bad := slices.Clone(l)
				bad[at] = x
				checkNoDecode(t, bad)
				checkNoDecode(t, append(bad, 0, 0))
			}
		}
	}
}

func TestDecodeTakesEveryExtension(t *testing.T) {
	for x := range 65536 {
		checkDecode(t, []int{0o012701, x}, api.Inst{Op: api.OpMov, Src: immediate(x), Dst: reg(1)}, 2)
		checkDecode(t, []int{0o016767, x, 65535 - x}, api.Inst{Op: api.OpMov, Src: ext(6, 7, x), Dst: ext(6, 7, 65535-x)}, 3)
		checkDecode(t, []int{0o105077, x}, api.Inst{Op: api.OpClr, Byte: true, Dst: ext(7, 7, x)}, 2)
	}
}

func TestDecodeFindsNoInstruction(t *testing.T) {
	for _, span := range [][2]int{
		{0o000006, 0o000077}, {0o000100, 0o000107}, {0o000210, 0o000237}, {0o004000, 0o004007}, {0o004700, 0o004707}, {0o006400, 0o006477}, {0o007000, 0o007777},
		{0o071100, 0o071177}, {0o071300, 0o071377}, {0o071500, 0o071577}, {0o071700, 0o071777}, {0o073000, 0o073777}, {0o075000, 0o076777},
		{0o106400, 0o107777}, {0o170000, 0o177777},
	} {
		for w := span[0]; w <= span[1]; w++ {
			checkNoDecode(t, []int{w, 0, 0})
		}
	}
}

// P6.2, P6.3 and P6.4

func TestEncodeEveryInstruction(t *testing.T) {
	for _, x := range [][2]int{{0, 0}, {5, 32768}, {65535, 1}} {
		for _, i := range instructions(x[0], x[1]) {
			checkEncode(t, i, wantWords(i))
		}
	}
}

func TestEncodeTakesEveryExtension(t *testing.T) {
	for x := -2; x <= 65538; x++ {
		i := api.Inst{Op: api.OpSub, Src: ext(6, 2, x), Dst: ext(3, 7, 9)}
		j := api.Inst{Op: api.OpCmp, Byte: true, Src: ext(2, 7, 9), Dst: ext(7, 0, x)}
		if x < 0 || x > 65535 {
			checkNotValid(t, i)
			checkNotValid(t, j)
			continue
		}
		checkEncode(t, i, []int{0o166237, x, 9})
		checkEncode(t, j, []int{0o122770, 9, x})
	}
}

func TestEncodeReturnsNewMemory(t *testing.T) {
	i := api.Inst{Op: api.OpMov, Src: immediate(5), Dst: ext(6, 1, 4)}
	first, _ := inst.Encode(i)
	second, _ := inst.Encode(i)
	first[0], first[1], first[2] = 1, 2, 3
	if want := []int{0o012761, 5, 4}; !slices.Equal(second, want) {
		t.Errorf("the words are %#o after a change of an earlier result, want %#o", second, want)
	}
	checkEncode(t, i, []int{0o012761, 5, 4})
}

func TestOpThatIsNone(t *testing.T) {
	for _, op := range []api.Op{0, -1, -2, -26, 57, 58, 64, 100, 255, 256, 257, 65536 + 1, 1<<32 + 26, math.MaxInt, math.MinInt, math.MinInt + 1} {
		checkNotValid(t, api.Inst{Op: op})
		checkNotValid(t, api.Inst{Op: op, Dst: reg(7)})
		checkNotValid(t, api.Inst{Op: op, Src: reg(1), Dst: mode(1, 2)})
		checkNotValid(t, api.Inst{Op: op, Num: 1})
		checkNotValid(t, api.Inst{Op: op, Reg: 6})
	}
}

// badOperands has operands that are not valid.
var badOperands = []api.Operand{{Ext: 1}, {Ext: -1}, {Mode: 1, Ext: 2}, {Mode: 2, Reg: 6, Ext: 4}, {Mode: 5, Reg: 7, Ext: 1}, {Mode: 6, Ext: -1}, {Mode: 6, Ext: 65536}, {Mode: 7, Reg: 7, Ext: math.MaxInt}, {Mode: 2, Reg: 7, Ext: -5}, {Mode: 3, Reg: 7, Ext: 65536}, {Mode: 8}, {Mode: -1}, {Mode: 9}, {Mode: 64}, {Reg: 8}, {Reg: -1}, {Mode: 6, Reg: 8, Ext: 1}, {Mode: 1, Reg: -8}, {Mode: math.MinInt, Reg: math.MaxInt}}

// ordinary returns a valid instruction of an operation, with other values than 0 in the fields that it uses.
func ordinary(r row) api.Inst {
	i := api.Inst{Op: r.op}
	if r.uses("s") {
		i.Src = ext(6, 3, 4)
	}
	if r.uses("d") {
		i.Dst = mode(1, 2)
	}
	if r.uses("r") {
		i.Reg = 4
	}
	if r.uses("n") {
		i.Num = 3
	}
	return i
}

func TestFieldsThatAreNotUsed(t *testing.T) {
	for _, r := range rows {
		i := ordinary(r)
		checkEncode(t, i, wantWords(i))
		if !r.uses("b") {
			bad := i
			bad.Byte = true
			checkNotValid(t, bad)
		}
		for _, o := range append(slices.Clone(badOperands), reg(1), reg(7), mode(1, 0), mode(2, 0), immediate(0), immediate(5), ext(6, 0, 0), ext(7, 7, 3)) {
			bad := i
			if bad.Src = o; !r.uses("s") {
				checkNotValid(t, bad)
			}
			bad = i
			if bad.Dst = o; !r.uses("d") {
				checkNotValid(t, bad)
			}
		}
		for _, n := range []int{1, 2, 6, 7, 8, -1, 64, 256, 65536, math.MaxInt, math.MinInt} {
			bad := i
			if bad.Reg = n; !r.uses("r") {
				checkNotValid(t, bad)
			}
			bad = i
			if bad.Num = n; !r.uses("n") {
				checkNotValid(t, bad)
			}
		}
	}
}

func TestFieldsOutOfTheirRanges(t *testing.T) {
	for _, r := range rows {
		for _, o := range badOperands {
			bad := ordinary(r)
			if bad.Src = o; r.uses("s") {
				checkNotValid(t, bad)
			}
			bad = ordinary(r)
			if bad.Dst = o; r.uses("d") {
				checkNotValid(t, bad)
			}
		}
		for _, n := range []int{-1, -2, -8, 8, 9, 12, 15, 16, 64, 1 << 32, 1<<61 + 4, math.MaxInt, math.MinInt, math.MinInt + 4} {
			bad := ordinary(r)
			if bad.Reg = n; r.uses("r") {
				checkNotValid(t, bad)
			}
		}
		for _, n := range []int{r.least - 1, r.most + 1, r.least - 256, r.most + 256, 3 + 65536, 3 - 65536, 1<<32 + 3, math.MaxInt, math.MinInt, math.MinInt + 3} {
			bad := ordinary(r)
			if bad.Num = n; r.uses("n") {
				checkNotValid(t, bad)
			}
		}
	}
}

func TestNumRanges(t *testing.T) {
	for _, r := range rows {
		for num := -600; num <= 600; num++ {
			i := api.Inst{Op: r.op, Num: num}
			if r.uses("d") {
				i.Dst = mode(1, 0)
			}
			if num >= r.least && num <= r.most {
				checkEncode(t, i, wantWords(i))
			} else {
				checkNotValid(t, i)
			}
		}
	}
}

func TestDivNeedsAnEvenRegister(t *testing.T) {
	for r := -9; r <= 17; r++ {
		i := api.Inst{Op: api.OpDiv, Reg: r, Src: reg(2)}
		if r == 0 || r == 2 || r == 4 || r == 6 {
			checkEncode(t, i, []int{0o071002 + 64*r})
		} else {
			checkNotValid(t, i)
		}
	}
	for r := range 8 {
		checkEncode(t, api.Inst{Op: api.OpMul, Reg: r}, []int{0o070000 + 64*r})
		checkEncode(t, api.Inst{Op: api.OpAsh, Reg: r}, []int{0o072000 + 64*r})
	}
}

func TestJumpsNeedAnAddress(t *testing.T) {
	for r := range 8 {
		checkNotValid(t, api.Inst{Op: api.OpJmp, Dst: reg(r)})
		checkNotValid(t, api.Inst{Op: api.OpJsr, Reg: 5, Dst: reg(r)})
		checkEncode(t, api.Inst{Op: api.OpJmp, Dst: mode(1, r)}, []int{0o000110 + r})
		checkEncode(t, api.Inst{Op: api.OpJsr, Reg: 5, Dst: mode(1, r)}, []int{0o004510 + r})
		checkEncode(t, api.Inst{Op: api.OpSwab, Dst: reg(r)}, []int{0o000300 + r})
		checkEncode(t, api.Inst{Op: api.OpMtp, Dst: reg(r)}, []int{0o006600 + r})
	}
}

// mixed returns instructions of all operations whose fields are combined freely; most of them are not valid.
func mixed() []api.Inst {
	some := []api.Operand{{}, {Reg: 7}, {Mode: 1}, {Mode: 2, Reg: 7, Ext: 5}, {Mode: 6, Reg: 1}, {Mode: 7, Reg: 7, Ext: 65535}, {Ext: 5}, {Mode: 8}, {Mode: 6, Ext: 65536}, {Reg: -1}}
	var all []api.Inst
	for op := api.Op(-1); op <= 58; op++ {
		for _, byte := range []bool{false, true} {
			for _, src := range some {
				for _, dst := range some {
					for _, r := range []int{-1, 0, 1, 6, 7, 8} {
						for _, num := range []int{-129, -1, 0, 15, 16, 64, 128} {
							all = append(all, api.Inst{Op: op, Byte: byte, Src: src, Dst: dst, Reg: r, Num: num})
						}
					}
				}
			}
		}
	}
	return all
}

func TestValid(t *testing.T) {
	count := 0
	for _, i := range mixed() {
		if !wantValid(i) {
			checkNotValid(t, i)
			continue
		}
		count++
		checkEncode(t, i, wantWords(i))
	}
	if count == 0 {
		t.Error("no instruction is valid")
	}
}

// P6.5

// wantEnds tells whether a valid instruction ends a block.
func wantEnds(i api.Inst) bool {
	r := rowOf[i.Op]
	switch i.Op {
	case api.OpBr, api.OpBne, api.OpBeq, api.OpBge, api.OpBlt, api.OpBgt, api.OpBle,
		api.OpBpl, api.OpBmi, api.OpBhi, api.OpBlos, api.OpBvc, api.OpBvs, api.OpBcc, api.OpBcs,
		api.OpJmp, api.OpJsr, api.OpRts, api.OpSob, api.OpEmt, api.OpTrap, api.OpBpt, api.OpIot, api.OpRti,
		api.OpHalt, api.OpWait, api.OpRset, api.OpMtp:
		return true
	case api.OpMul, api.OpDiv, api.OpAsh:
		return i.Reg == 6 || i.Reg == 7
	case api.OpCmp, api.OpBit, api.OpTst:
		return false
	}
	return r.uses("d") && i.Dst.Mode == 0 && i.Dst.Reg == 7
}

func TestEndsCases(t *testing.T) {
	pc := reg(7)
	for _, k := range []struct {
		i    api.Inst
		want bool
	}{
		{api.Inst{Op: api.OpMov, Src: reg(1), Dst: pc}, true}, {api.Inst{Op: api.OpMov, Byte: true, Src: reg(1), Dst: pc}, true}, {api.Inst{Op: api.OpMov, Src: pc, Dst: reg(1)}, false}, {api.Inst{Op: api.OpMov, Src: reg(1), Dst: mode(1, 7)}, false}, {api.Inst{Op: api.OpMov, Dst: reg(6)}, false}, {api.Inst{Op: api.OpMov, Src: mode(4, 7), Dst: mode(4, 7)}, false},
		{api.Inst{Op: api.OpBic, Dst: pc}, true}, {api.Inst{Op: api.OpBis, Dst: pc}, true}, {api.Inst{Op: api.OpAdd, Src: immediate(4), Dst: pc}, true}, {api.Inst{Op: api.OpSub, Dst: pc}, true}, {api.Inst{Op: api.OpXor, Reg: 1, Dst: pc}, true}, {api.Inst{Op: api.OpXor, Reg: 7, Dst: reg(1)}, false},
		{api.Inst{Op: api.OpCmp, Dst: pc}, false}, {api.Inst{Op: api.OpCmp, Byte: true, Dst: pc}, false}, {api.Inst{Op: api.OpBit, Dst: pc}, false}, {api.Inst{Op: api.OpTst, Dst: pc}, false}, {api.Inst{Op: api.OpTst, Byte: true, Dst: pc}, false},
		{api.Inst{Op: api.OpClr, Dst: pc}, true}, {api.Inst{Op: api.OpInc, Byte: true, Dst: pc}, true}, {api.Inst{Op: api.OpRor, Dst: pc}, true}, {api.Inst{Op: api.OpAsl, Dst: pc}, true}, {api.Inst{Op: api.OpSwab, Dst: pc}, true}, {api.Inst{Op: api.OpSxt, Dst: pc}, true}, {api.Inst{Op: api.OpSxt, Dst: reg(6)}, false}, {api.Inst{Op: api.OpClr, Dst: ext(6, 7, 2)}, false},
		{api.Inst{Op: api.OpMul, Reg: 5}, false}, {api.Inst{Op: api.OpMul, Reg: 6}, true}, {api.Inst{Op: api.OpMul, Reg: 7}, true}, {api.Inst{Op: api.OpDiv, Reg: 4}, false}, {api.Inst{Op: api.OpDiv, Reg: 6}, true}, {api.Inst{Op: api.OpDiv, Reg: 7}, false}, {api.Inst{Op: api.OpAsh, Reg: 6}, true}, {api.Inst{Op: api.OpAsh, Reg: 7}, true}, {api.Inst{Op: api.OpAsh, Reg: 1, Src: pc}, false},
		{api.Inst{Op: api.OpMfp, Src: pc}, false}, {api.Inst{Op: api.OpMtp, Dst: reg(0)}, true}, {api.Inst{Op: api.OpMtp, Dst: ext(6, 1, 2)}, true}, {api.Inst{Op: api.OpCcc, Num: 15}, false}, {api.Inst{Op: api.OpScc}, false},
		{api.Inst{Op: api.OpBr}, true}, {api.Inst{Op: api.OpBcs, Num: -128}, true}, {api.Inst{Op: api.OpSob, Reg: 1, Num: 2}, true}, {api.Inst{Op: api.OpJmp, Dst: mode(1, 0)}, true}, {api.Inst{Op: api.OpJsr, Dst: mode(1, 0)}, true}, {api.Inst{Op: api.OpRts, Reg: 7}, true}, {api.Inst{Op: api.OpRti}, true}, {api.Inst{Op: api.OpHalt}, true}, {api.Inst{Op: api.OpWait}, true}, {api.Inst{Op: api.OpRset}, true}, {api.Inst{Op: api.OpEmt, Num: 255}, true}, {api.Inst{Op: api.OpTrap}, true}, {api.Inst{Op: api.OpBpt}, true}, {api.Inst{Op: api.OpIot}, true},
		{api.Inst{Op: api.OpBr, Num: 128}, false}, {api.Inst{Op: api.OpJmp, Dst: pc}, false}, {api.Inst{Op: api.OpHalt, Num: 1}, false}, {api.Inst{Op: api.OpClr, Dst: pc, Reg: 1}, false}, {api.Inst{Op: api.OpMfp, Dst: pc}, false}, {api.Inst{Dst: pc}, false}, // not valid
	} {
		if got := inst.Ends(k.i); got != k.want {
			t.Errorf("Ends(%+v) = %v, want %v", k.i, got, k.want)
		}
	}
}

func TestEndsAndPrivileged(t *testing.T) {
	for _, i := range instructions(2, 65535) {
		if got, want := inst.Ends(i), wantEnds(i); got != want {
			t.Fatalf("Ends(%+v) = %v, want %v", i, got, want)
		}
		if got, want := inst.Privileged(i), i.Op == api.OpHalt || i.Op == api.OpWait || i.Op == api.OpRset; got != want {
			t.Fatalf("Privileged(%+v) = %v, want %v", i, got, want)
		}
	}
}

func TestPrivilegedNeedsAValidInstruction(t *testing.T) {
	for _, op := range []api.Op{api.OpHalt, api.OpWait, api.OpRset} {
		if !inst.Privileged(api.Inst{Op: op}) {
			t.Errorf("operation %d is not privileged", op)
		}
		for _, i := range []api.Inst{{Op: op, Byte: true}, {Op: op, Reg: 1}, {Op: op, Num: -1}, {Op: op, Src: reg(1)}, {Op: op, Dst: mode(1, 0)}} {
			checkNotValid(t, i)
		}
	}
}

// P6.6

func TestDecodeOfEncodeIsTheInstruction(t *testing.T) {
	for k, x := range extensions {
		for _, i := range instructions(x, extensions[(k+3)%len(extensions)]) {
			l, e := inst.Encode(i)
			if e != api.OK {
				t.Fatalf("Encode(%+v) is the error %d", i, e)
			}
			checkDecode(t, l, i, inst.Length(i))
		}
	}
}

func TestEncodeOfDecodeIsTheWords(t *testing.T) {
	for w := range 65536 {
		for _, x := range extensions {
			l := []int{w, x, 65535 - x}
			i, n := inst.Decode(l)
			if n == 0 {
				checkNoDecode(t, l)
				continue
			}
			checkEncode(t, i, l[:n])
		}
	}
}

func TestEveryWordBelongsToOneInstruction(t *testing.T) {
	words := map[api.Inst]int{}
	for w := range 65536 {
		i, n := inst.Decode([]int{w, 0, 0})
		if n == 0 {
			continue
		}
		if other, ok := words[i]; ok {
			t.Fatalf("%#o and %#o are both %+v", other, w, i)
		}
		words[i] = w
	}
	if len(words) != instructionWords {
		t.Errorf("Decode accepts %d words, want %d", len(words), instructionWords)
	}
}

func TestNoTwoInstructionsHaveTheSameWords(t *testing.T) {
	known := map[[3]int]api.Inst{}
	for _, x := range []int{0, 1, 65535} {
		for _, y := range []int{0, 1, 65535} {
			for _, i := range instructions(x, y) {
				key := [3]int{-1, -1, -1}
				l, _ := inst.Encode(i)
				copy(key[:], l)
				if other, ok := known[key]; ok && other != i {
					t.Fatalf("%+v and %+v have the words %#o", other, i, l)
				}
				known[key] = i
			}
		}
	}
}
