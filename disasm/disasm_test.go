package disasm_test

import (
	"fmt"
	"math"
	"slices"
	"strconv"
	"strings"
	"testing"

	"emulator/api"
	"emulator/disasm"
	"emulator/inst"
)

// row is an operation: its mnemonic, that of its byte form (empty if it has none), and what stands behind them: s (source), d (destination), r (register), + and - (a target after or before the instruction), n (a number).
type row struct {
	op         api.Op
	name, byte string
	shape      string
}

// rows has every operation.
var rows = []row{
	{api.OpMov, "mov", "movb", "sd"}, {api.OpCmp, "cmp", "cmpb", "sd"}, {api.OpBit, "bit", "bitb", "sd"}, {api.OpBic, "bic", "bicb", "sd"}, {api.OpBis, "bis", "bisb", "sd"},
	{api.OpAdd, "add", "", "sd"}, {api.OpSub, "sub", "", "sd"},
	{api.OpMul, "mul", "", "sr"}, {api.OpDiv, "div", "", "sr"}, {api.OpAsh, "ash", "", "sr"}, {api.OpXor, "xor", "", "rd"},
	{api.OpClr, "clr", "clrb", "d"}, {api.OpCom, "com", "comb", "d"}, {api.OpInc, "inc", "incb", "d"}, {api.OpDec, "dec", "decb", "d"}, {api.OpNeg, "neg", "negb", "d"}, {api.OpAdc, "adc", "adcb", "d"}, {api.OpSbc, "sbc", "sbcb", "d"}, {api.OpTst, "tst", "tstb", "d"},
	{api.OpRor, "ror", "rorb", "d"}, {api.OpRol, "rol", "rolb", "d"}, {api.OpAsr, "asr", "asrb", "d"}, {api.OpAsl, "asl", "aslb", "d"},
	{api.OpSwab, "swab", "", "d"}, {api.OpSxt, "sxt", "", "d"},
	{api.OpBr, "br", "", "+"}, {api.OpBne, "bne", "", "+"}, {api.OpBeq, "beq", "", "+"}, {api.OpBge, "bge", "", "+"}, {api.OpBlt, "blt", "", "+"}, {api.OpBgt, "bgt", "", "+"}, {api.OpBle, "ble", "", "+"},
	{api.OpBpl, "bpl", "", "+"}, {api.OpBmi, "bmi", "", "+"}, {api.OpBhi, "bhi", "", "+"}, {api.OpBlos, "blos", "", "+"}, {api.OpBvc, "bvc", "", "+"}, {api.OpBvs, "bvs", "", "+"}, {api.OpBcc, "bcc", "", "+"}, {api.OpBcs, "bcs", "", "+"},
	{api.OpJmp, "jmp", "", "d"}, {api.OpJsr, "jsr", "", "rd"}, {api.OpRts, "rts", "", "r"}, {api.OpSob, "sob", "", "r-"},
	{api.OpEmt, "emt", "", "n"}, {api.OpTrap, "trap", "", "n"}, {api.OpBpt, "bpt", "", ""}, {api.OpIot, "iot", "", ""}, {api.OpRti, "rti", "", ""},
	{api.OpHalt, "halt", "", ""}, {api.OpWait, "wait", "", ""}, {api.OpRset, "reset", "", ""}, {api.OpCcc, "ccc", "", "n"}, {api.OpScc, "scc", "", "n"},
	{api.OpMfp, "mfp", "", "s"}, {api.OpMtp, "mtp", "", "d"},
}

// rowOf returns the row of an operation.
func rowOf(op api.Op) row {
	return rows[slices.IndexFunc(rows, func(r row) bool { return r.op == op })]
}

// codeNames has the texts of ccc and scc with every code.
var codeNames = map[api.Op][16]string{
	api.OpCcc: {"nop", "clc", "clv", "ccc 3", "clz", "ccc 5", "ccc 6", "ccc 7", "cln", "ccc 0o11", "ccc 0o12", "ccc 0o13", "ccc 0o14", "ccc 0o15", "ccc 0o16", "ccc 0o17"},
	api.OpScc: {"scc 0", "sec", "sev", "scc 3", "sez", "scc 5", "scc 6", "scc 7", "sen", "scc 0o11", "scc 0o12", "scc 0o13", "scc 0o14", "scc 0o15", "scc 0o16", "scc 0o17"},
}

// registerNames has the names of the registers.
var registerNames = [8]string{"r0", "r1", "r2", "r3", "r4", "r5", "sp", "pc"}

// operandTexts has the texts of the modes for the registers other than pc, and for pc. R stands for the register, X for the extension word, A for the address X + next.
var operandTexts = [2][8]string{
	{"R", "(R)", "(R)+", "@(R)+", "-(R)", "@-(R)", "X(R)", "@X(R)"},
	{"pc", "(pc)", "#X", "@#X", "-(pc)", "@-(pc)", "A", "@A"},
}

// someAddresses has addresses at and beyond the ends of the words, and integers that are no addresses.
var someAddresses = []int{0, 1, 2, 3, 4, 6, 7, 8, 512, 513, 32767, 32768, 65526, 65527, 65528, 65532, 65533, 65534, 65535, 65536, 65537, 65540, 131070, -1, -2, -3, -4, -8, -65534, -65535, -65536, -65537, 1 << 32, 1<<40 + 6, math.MaxInt, math.MaxInt - 1, math.MinInt, math.MinInt + 3}

// modulo returns an integer modulo 65536.
func modulo(n int) int {
	return (n%65536 + 65536) % 65536
}

// wantNumber returns the text of a number.
func wantNumber(n int) string {
	if n = modulo(n); n < 8 {
		return strconv.Itoa(n)
	}
	return "0o" + strconv.FormatInt(int64(n), 8)
}

// wantOperand returns the text of a valid operand; next is a word.
func wantOperand(o api.Operand, next int) string {
	text := operandTexts[0][o.Mode]
	if o.Reg == 7 {
		text = operandTexts[1][o.Mode]
	}
	text = strings.Replace(text, "R", registerNames[o.Reg], 1)
	text = strings.Replace(text, "X", wantNumber(o.Ext), 1)
	return strings.Replace(text, "A", wantNumber(o.Ext+next), 1)
}

// hasExtension tells whether a valid operand has an extension word.
func hasExtension(o api.Operand) bool {
	return o.Mode >= 6 || o.Mode >= 2 && o.Mode <= 3 && o.Reg == 7
}

// wantText returns the text of a valid instruction.
func wantText(i api.Inst, at int) string {
	at = modulo(at)
	if i.Op == api.OpCcc || i.Op == api.OpScc {
		return codeNames[i.Op][i.Num]
	}
	r := rowOf(i.Op)
	name := r.name
	if i.Byte {
		name = r.byte
	}
	afterSource := at + 2
	if hasExtension(i.Src) {
		afterSource += 2
	}
	afterDestination := afterSource
	if hasExtension(i.Dst) {
		afterDestination += 2
	}
	var parts []string
	for _, c := range r.shape {
		switch c {
		case 's':
			parts = append(parts, wantOperand(i.Src, afterSource))
		case 'd':
			parts = append(parts, wantOperand(i.Dst, afterDestination))
		case 'r':
			parts = append(parts, registerNames[i.Reg])
		case '+':
			parts = append(parts, wantNumber(at+2+2*i.Num))
		case '-':
			parts = append(parts, wantNumber(at+2-2*i.Num))
		case 'n':
			parts = append(parts, wantNumber(i.Num))
		}
	}
	return strings.TrimSuffix(name+" "+strings.Join(parts, ", "), " ")
}

// instructions returns all valid instructions whose extension words are these.
func instructions(source, destination int) []api.Inst {
	var all []api.Inst
	for w := range 65536 {
		i, n := inst.Decode([]int{w, source, destination})
		if n == 2 && hasExtension(i.Dst) {
			i.Dst.Ext = destination
		}
		if n > 0 {
			all = append(all, i)
		}
	}
	return all
}

func reg(r int) api.Operand { return api.Operand{Reg: r} }

func mode(m, r int) api.Operand { return api.Operand{Mode: m, Reg: r} }

func ext(m, r, x int) api.Operand { return api.Operand{Mode: m, Reg: r, Ext: x} }

// P7.1

func checkByName(t *testing.T, s string, op api.Op, byte, ok bool) {
	t.Helper()
	if gotOp, gotByte, gotOk := disasm.ByName(s); gotOp != op || gotByte != byte || gotOk != ok {
		t.Fatalf("ByName(%q) = %d, %v, %v, want %d, %v, %v", s, gotOp, gotByte, gotOk, op, byte, ok)
	}
}

func TestNameOfEveryOperation(t *testing.T) {
	if len(rows) != 56 {
		t.Fatalf("there are %d operations, want 56", len(rows))
	}
	for _, r := range rows {
		if s := disasm.Name(r.op, false); s != r.name {
			t.Errorf("Name(%d, false) = %q, want %q", r.op, s, r.name)
		}
		if s := disasm.Name(r.op, true); s != r.byte {
			t.Errorf("Name(%d, true) = %q, want %q", r.op, s, r.byte)
		}
	}
}

func TestNameOfNoOperation(t *testing.T) {
	none := []api.Op{57, 58, 64, 255, 256, 257, 65536 + 1, 1<<32 + 1, 1<<32 + 14, math.MaxInt, math.MinInt, math.MinInt + 1}
	for op := api.Op(-60); op <= 0; op++ {
		none = append(none, op)
	}
	for _, op := range none {
		for _, byte := range []bool{false, true} {
			if s := disasm.Name(op, byte); s != "" {
				t.Errorf("Name(%d, %v) = %q, want none", op, byte, s)
			}
		}
	}
}

func TestByNameOfEveryMnemonic(t *testing.T) {
	for _, r := range rows {
		checkByName(t, r.name, r.op, false, true)
		if r.byte != "" {
			checkByName(t, r.byte, r.op, true, true)
		}
	}
	for _, s := range []string{"nop", "clc", "clv", "clz", "cln"} {
		checkByName(t, s, api.OpCcc, false, true)
	}
	for _, s := range []string{"sec", "sev", "sez", "sen"} {
		checkByName(t, s, api.OpScc, false, true)
	}
}

// allNames returns all strings that ByName knows.
func allNames() map[string]bool {
	all := map[string]bool{}
	for _, s := range []string{"nop", "clc", "clv", "clz", "cln", "sec", "sev", "sez", "sen"} {
		all[s] = true
	}
	for _, r := range rows {
		all[r.name] = true
		if r.byte != "" {
			all[r.byte] = true
		}
	}
	return all
}

func TestByNameOfOtherStrings(t *testing.T) {
	for _, s := range []string{
		"", " ", "b", "bb", "o", "r0", "sp", "pc", ".word", "ccc 3", "scc 0", "mov ", " mov", "mov\n", "mov\x00", "mov.", "MOV", "Mov", "moV", "MOVB", "movB", "NOP", "Sec",
		"addb", "subb", "mulb", "divb", "ashb", "xorb", "swabb", "sxtb", "brb", "jmpb", "jsrb", "rtsb", "sobb", "emtb", "trapb", "haltb", "resetb", "cccb", "sccb", "mfpb", "mtpb",
		"movbb", "clrbb", "nopb", "clcb", "secb", "set", "rset", "su", "swa", "nul", "ses", "clr0", "reserve", "öov", "\xffmov", strings.Repeat("mov", 1000), strings.Repeat("b", 100000), "mov" + strings.Repeat("b", 100000), strings.Repeat(" ", 70000),
	} {
		checkByName(t, s, api.OpNone, false, false)
	}
	known := allNames()
	for s := range known {
		for _, other := range []string{strings.ToUpper(s), strings.ToUpper(s[:1]) + s[1:], s + "b", s + " ", s + "\x00", " " + s, s[1:], s[:len(s)-1], s + s, s + strings.Repeat("b", 300)} {
			if !known[other] {
				checkByName(t, other, api.OpNone, false, false)
			}
		}
	}
}

func TestByNameOfShortStrings(t *testing.T) {
	known := allNames()
	found := 0
	check := func(s string) {
		if _, _, ok := disasm.ByName(s); ok != known[s] {
			t.Fatalf("ByName(%q) is found: %v, want %v", s, ok, known[s])
		}
		if known[s] {
			found++
		}
	}
	for a := 'a'; a <= 'z'; a++ {
		check(string([]rune{a}))
		for b := 'a'; b <= 'z'; b++ {
			check(string([]rune{a, b}))
			for c := 'a'; c <= 'z'; c++ {
				check(string([]rune{a, b, c}))
			}
		}
	}
	want := 0
	for s := range known {
		if len(s) <= 3 {
			want++
		}
	}
	if found != want {
		t.Errorf("%d short mnemonics were found, want %d", found, want)
	}
}

// P7.2

func checkOperand(t *testing.T, o api.Operand, next int, want string) {
	t.Helper()
	if s := disasm.Operand(o, next); s != want {
		t.Fatalf("Operand(%+v, %d) = %q, want %q", o, next, s, want)
	}
}

func TestOperandExamples(t *testing.T) {
	checkOperand(t, ext(2, 7, 5), 0, "#5")
	checkOperand(t, ext(6, 7, 4), 8, "0o14")
	checkOperand(t, ext(7, 1, 8), 0, "@0o10(r1)")
	checkOperand(t, mode(5, 6), 0, "@-(sp)")
}

func TestOperandCases(t *testing.T) {
	for _, k := range []struct {
		o    api.Operand
		want string
	}{
		{reg(0), "r0"}, {reg(5), "r5"}, {reg(6), "sp"}, {reg(7), "pc"},
		{mode(1, 0), "(r0)"}, {mode(1, 6), "(sp)"}, {mode(1, 7), "(pc)"},
		{mode(2, 1), "(r1)+"}, {mode(2, 6), "(sp)+"}, {ext(2, 7, 0), "#0"}, {ext(2, 7, 7), "#7"}, {ext(2, 7, 8), "#0o10"}, {ext(2, 7, 65535), "#0o177777"},
		{mode(3, 2), "@(r2)+"}, {mode(3, 6), "@(sp)+"}, {ext(3, 7, 0), "@#0"}, {ext(3, 7, 7), "@#7"}, {ext(3, 7, 8), "@#0o10"}, {ext(3, 7, 65535), "@#0o177777"},
		{mode(4, 3), "-(r3)"}, {mode(4, 6), "-(sp)"}, {mode(4, 7), "-(pc)"},
		{mode(5, 4), "@-(r4)"}, {mode(5, 7), "@-(pc)"},
		{ext(6, 5, 0), "0(r5)"}, {ext(6, 5, 7), "7(r5)"}, {ext(6, 5, 8), "0o10(r5)"}, {ext(6, 6, 65535), "0o177777(sp)"}, {ext(6, 7, 0), "0o1000"}, {ext(6, 7, 7), "0o1007"}, {ext(6, 7, 8), "0o1010"}, {ext(6, 7, 65535), "0o777"},
		{ext(7, 5, 0), "@0(r5)"}, {ext(7, 5, 7), "@7(r5)"}, {ext(7, 5, 8), "@0o10(r5)"}, {ext(7, 6, 65535), "@0o177777(sp)"}, {ext(7, 7, 0), "@0o1000"}, {ext(7, 7, 7), "@0o1007"}, {ext(7, 7, 8), "@0o1010"}, {ext(7, 7, 65535), "@0o777"},
	} {
		checkOperand(t, k.o, 512, k.want)
	}
}

func TestOperandOfEveryModeAndRegister(t *testing.T) {
	for m := range 8 {
		for r := range 8 {
			for _, x := range []int{0, 1, 7, 8, 9, 63, 64, 32768, 65534, 65535} {
				o := mode(m, r)
				if hasExtension(o) {
					o.Ext = x
				}
				for _, next := range someAddresses {
					checkOperand(t, o, next, wantOperand(o, modulo(next)))
				}
			}
		}
	}
}

func TestOperandRelativeToTheCounter(t *testing.T) {
	for _, k := range []struct {
		x, next int
		want    string
	}{
		{0, 0, "0"}, {7, 0, "7"}, {8, 0, "0o10"}, {0, 7, "7"}, {1, 7, "0o10"}, {65535, 0, "0o177777"}, {65535, 1, "0"}, {65535, 8, "7"}, {65535, 9, "0o10"}, {65534, 4, "2"}, {65535, 65535, "0o177776"}, {32768, 32768, "0"},
		{0, -1, "0o177777"}, {1, -1, "0"}, {4, -6, "0o177776"}, {0, -65536, "0"}, {5, -65537, "4"}, {0, 65536, "0"}, {3, 65538, "5"}, {65535, 65536, "0o177777"}, {65535, 131073, "0"},
		{0, math.MaxInt, "0o177777"}, {1, math.MaxInt, "0"}, {65535, math.MaxInt, "0o177776"}, {0, math.MinInt, "0"}, {65535, math.MinInt, "0o177777"},
	} {
		checkOperand(t, ext(6, 7, k.x), k.next, k.want)
		checkOperand(t, ext(7, 7, k.x), k.next, "@"+k.want)
	}
}

func TestOperandOfEveryExtensionWord(t *testing.T) {
	for x := range 65536 {
		for _, o := range []api.Operand{ext(2, 7, x), ext(3, 7, x), ext(6, 0, x), ext(6, 7, x), ext(7, 6, x), ext(7, 7, x)} {
			checkOperand(t, o, 4, wantOperand(o, 4))
		}
		checkOperand(t, ext(6, 7, 3), x, wantNumber(3+x))
		checkOperand(t, ext(6, 7, 3), x-65536, wantNumber(3+x))
	}
}

func TestOperandThatIsNotValid(t *testing.T) {
	for _, o := range []api.Operand{
		{Ext: 1}, {Ext: -1}, {Reg: 7, Ext: 1}, {Mode: 1, Ext: 2}, {Mode: 1, Reg: 7, Ext: 2}, {Mode: 2, Ext: 4}, {Mode: 2, Reg: 6, Ext: 4}, {Mode: 3, Reg: 6, Ext: 65535}, {Mode: 4, Reg: 7, Ext: 1}, {Mode: 5, Reg: 7, Ext: 1},
		{Mode: 6, Ext: -1}, {Mode: 6, Ext: 65536}, {Mode: 6, Reg: 7, Ext: -1}, {Mode: 6, Reg: 7, Ext: 65536}, {Mode: 7, Reg: 7, Ext: math.MaxInt}, {Mode: 7, Ext: math.MinInt}, {Mode: 2, Reg: 7, Ext: -5}, {Mode: 2, Reg: 7, Ext: 65536}, {Mode: 3, Reg: 7, Ext: 65536}, {Mode: 3, Reg: 7, Ext: -1},
		{Mode: 8}, {Mode: -1}, {Mode: 9}, {Mode: 64}, {Mode: 14, Reg: 1, Ext: 5}, {Reg: 8}, {Reg: -1}, {Reg: 15}, {Mode: 6, Reg: 8, Ext: 1}, {Mode: 1, Reg: -8}, {Mode: math.MinInt, Reg: math.MaxInt}, {Mode: math.MaxInt, Reg: math.MinInt, Ext: math.MinInt}, {Mode: math.MinInt}, {Reg: math.MinInt},
	} {
		for _, next := range someAddresses {
			checkOperand(t, o, next, "")
		}
	}
}

// P7.3

func checkText(t *testing.T, i api.Inst, at int, want string) {
	t.Helper()
	if s := disasm.Text(i, at); s != want {
		t.Fatalf("Text(%+v, %d) = %q, want %q", i, at, s, want)
	}
}

func TestTextExamples(t *testing.T) {
	checkText(t, api.Inst{Op: api.OpBr, Num: -1}, 512, "br 0o1000")
	checkText(t, api.Inst{Op: api.OpSob, Reg: 3, Num: 2}, 512, "sob r3, 0o776")
	checkText(t, api.Inst{Op: api.OpMov, Src: ext(2, 7, 5), Dst: reg(1)}, 0, "mov #5, r1")
}

func TestTextCases(t *testing.T) {
	for _, k := range []struct {
		i    api.Inst
		want string
	}{
		{api.Inst{Op: api.OpMov}, "mov r0, r0"}, {api.Inst{Op: api.OpMov, Byte: true, Src: mode(2, 0), Dst: mode(4, 6)}, "movb (r0)+, -(sp)"}, {api.Inst{Op: api.OpCmp, Src: ext(2, 7, 8), Dst: ext(6, 6, 2)}, "cmp #0o10, 2(sp)"}, {api.Inst{Op: api.OpBit, Src: ext(3, 7, 64), Dst: reg(7)}, "bit @#0o100, pc"}, {api.Inst{Op: api.OpBic, Byte: true, Src: mode(3, 1), Dst: mode(5, 2)}, "bicb @(r1)+, @-(r2)"}, {api.Inst{Op: api.OpBis, Src: reg(6), Dst: ext(7, 3, 7)}, "bis sp, @7(r3)"},
		{api.Inst{Op: api.OpAdd, Src: mode(1, 4), Dst: reg(5)}, "add (r4), r5"}, {api.Inst{Op: api.OpSub, Src: reg(5), Dst: mode(1, 4)}, "sub r5, (r4)"},
		{api.Inst{Op: api.OpMul, Reg: 1, Src: reg(2)}, "mul r2, r1"}, {api.Inst{Op: api.OpDiv, Reg: 6, Src: ext(2, 7, 3)}, "div #3, sp"}, {api.Inst{Op: api.OpAsh, Reg: 7, Src: ext(6, 7, 0)}, "ash 0o1004, pc"}, {api.Inst{Op: api.OpXor, Reg: 1, Dst: reg(2)}, "xor r1, r2"}, {api.Inst{Op: api.OpXor, Reg: 7, Dst: ext(6, 7, 0)}, "xor pc, 0o1004"},
		{api.Inst{Op: api.OpClr, Dst: reg(1)}, "clr r1"}, {api.Inst{Op: api.OpCom, Byte: true, Dst: mode(1, 1)}, "comb (r1)"}, {api.Inst{Op: api.OpInc, Dst: ext(6, 7, 8)}, "inc 0o1014"}, {api.Inst{Op: api.OpDec, Byte: true, Dst: ext(7, 7, 65535)}, "decb @0o1003"}, {api.Inst{Op: api.OpNeg, Dst: reg(0)}, "neg r0"}, {api.Inst{Op: api.OpAdc, Dst: reg(0)}, "adc r0"}, {api.Inst{Op: api.OpSbc, Byte: true, Dst: reg(0)}, "sbcb r0"}, {api.Inst{Op: api.OpTst, Dst: mode(2, 6)}, "tst (sp)+"},
		{api.Inst{Op: api.OpRor, Dst: reg(3)}, "ror r3"}, {api.Inst{Op: api.OpRol, Dst: reg(3)}, "rol r3"}, {api.Inst{Op: api.OpAsr, Byte: true, Dst: reg(3)}, "asrb r3"}, {api.Inst{Op: api.OpAsl, Dst: reg(3)}, "asl r3"}, {api.Inst{Op: api.OpSwab, Dst: reg(4)}, "swab r4"}, {api.Inst{Op: api.OpSxt, Dst: reg(4)}, "sxt r4"},
		{api.Inst{Op: api.OpMfp, Src: reg(6)}, "mfp sp"}, {api.Inst{Op: api.OpMfp, Src: ext(6, 7, 2)}, "mfp 0o1006"}, {api.Inst{Op: api.OpMtp, Dst: ext(3, 7, 2)}, "mtp @#2"}, {api.Inst{Op: api.OpMtp, Dst: ext(6, 7, 2)}, "mtp 0o1006"},
		{api.Inst{Op: api.OpJmp, Dst: mode(1, 3)}, "jmp (r3)"}, {api.Inst{Op: api.OpJmp, Dst: ext(6, 7, 65532)}, "jmp 0o1000"}, {api.Inst{Op: api.OpJsr, Reg: 7, Dst: ext(3, 7, 64)}, "jsr pc, @#0o100"}, {api.Inst{Op: api.OpJsr, Reg: 5, Dst: ext(6, 7, 4)}, "jsr r5, 0o1010"}, {api.Inst{Op: api.OpRts, Reg: 0}, "rts r0"}, {api.Inst{Op: api.OpRts, Reg: 7}, "rts pc"},
		{api.Inst{Op: api.OpBne, Num: 1}, "bne 0o1004"}, {api.Inst{Op: api.OpBeq}, "beq 0o1002"}, {api.Inst{Op: api.OpBge, Num: -2}, "bge 0o776"}, {api.Inst{Op: api.OpBlos, Num: 127}, "blos 0o1400"}, {api.Inst{Op: api.OpBcs, Num: -128}, "bcs 0o402"}, {api.Inst{Op: api.OpSob, Reg: 6}, "sob sp, 0o1002"}, {api.Inst{Op: api.OpSob, Num: 63}, "sob r0, 0o604"},
		{api.Inst{Op: api.OpEmt}, "emt 0"}, {api.Inst{Op: api.OpEmt, Num: 7}, "emt 7"}, {api.Inst{Op: api.OpEmt, Num: 8}, "emt 0o10"}, {api.Inst{Op: api.OpTrap, Num: 255}, "trap 0o377"},
		{api.Inst{Op: api.OpBpt}, "bpt"}, {api.Inst{Op: api.OpIot}, "iot"}, {api.Inst{Op: api.OpRti}, "rti"}, {api.Inst{Op: api.OpHalt}, "halt"}, {api.Inst{Op: api.OpWait}, "wait"}, {api.Inst{Op: api.OpRset}, "reset"},
	} {
		checkText(t, k.i, 512, k.want)
	}
}

func TestTextOfRelativeOperands(t *testing.T) {
	both := api.Inst{Op: api.OpMov, Src: ext(6, 7, 16), Dst: ext(6, 7, 16)}
	checkText(t, both, 512, "mov 0o1024, 0o1026")
	checkText(t, both, -4, "mov 0o20, 0o22")
	checkText(t, api.Inst{Op: api.OpMov, Src: ext(2, 7, 16), Dst: ext(7, 7, 0)}, 512, "mov #0o20, @0o1006")
	checkText(t, api.Inst{Op: api.OpMov, Src: ext(6, 1, 16), Dst: ext(6, 7, 0)}, 512, "mov 0o20(r1), 0o1006")
	checkText(t, api.Inst{Op: api.OpMov, Src: ext(7, 7, 0), Dst: reg(1)}, 65532, "mov @0, r1")
	checkText(t, api.Inst{Op: api.OpMov, Src: ext(7, 7, 0), Dst: ext(2, 7, 9)}, 65532, "mov @0, #0o11")
	checkText(t, api.Inst{Op: api.OpMov, Src: reg(1), Dst: ext(6, 7, 65535)}, 65532, "mov r1, 0o177777")
	checkText(t, api.Inst{Op: api.OpCmp, Byte: true, Src: ext(6, 7, 0), Dst: ext(6, 7, 0)}, 65534, "cmpb 2, 4")
	checkText(t, api.Inst{Op: api.OpJmp, Dst: ext(6, 7, 65532)}, 0, "jmp 0")
	checkText(t, api.Inst{Op: api.OpJmp, Dst: ext(6, 7, 0)}, math.MaxInt, "jmp 3")
}

func TestTextOfEveryConditionCode(t *testing.T) {
	for op, names := range codeNames {
		for codes, want := range names {
			for _, at := range someAddresses {
				checkText(t, api.Inst{Op: op, Num: codes}, at, want)
			}
		}
	}
}

func TestTextOfTargets(t *testing.T) {
	for _, r := range rows[25:40] {
		if r.shape != "+" {
			t.Fatalf("%s is no branch", r.name)
		}
		for _, k := range []struct {
			at, offset int
			target     string
		}{
			{0, 0, "2"}, {0, 2, "6"}, {0, 3, "0o10"}, {0, 127, "0o400"}, {0, -1, "0"}, {0, -2, "0o177776"}, {0, -128, "0o177402"}, {254, -128, "0"}, {252, -128, "0o177776"},
			{65534, 0, "0"}, {65534, -1, "0o177776"}, {65534, 127, "0o376"}, {65532, 0, "0o177776"}, {65280, 127, "0"}, {65278, 127, "0o177776"},
			{1, 0, "3"}, {65535, 0, "1"}, {65535, -1, "0o177777"}, {-2, 1, "2"}, {-1, -1, "0o177777"}, {65536, 1, "4"}, {65538, -2, "0"}, {math.MaxInt, 0, "1"}, {math.MaxInt, 127, "0o377"}, {math.MinInt, -1, "0"}, {math.MinInt, -128, "0o177402"},
		} {
			checkText(t, api.Inst{Op: r.op, Num: k.offset}, k.at, r.name+" "+k.target)
		}
	}
	for _, k := range []struct {
		at, offset int
		target     string
	}{
		{0, 0, "2"}, {0, 1, "0"}, {0, 2, "0o177776"}, {0, 63, "0o177604"}, {124, 63, "0"}, {122, 63, "0o177776"}, {132, 63, "0o10"},
		{65534, 0, "0"}, {65534, 1, "0o177776"}, {65535, 0, "1"}, {3, 2, "1"}, {-2, 0, "0"}, {-4, 0, "0o177776"}, {65536, 1, "0"}, {65540, 3, "0"}, {math.MaxInt, 0, "1"}, {math.MinInt, 63, "0o177604"},
	} {
		for r, name := range registerNames {
			checkText(t, api.Inst{Op: api.OpSob, Reg: r, Num: k.offset}, k.at, "sob "+name+", "+k.target)
		}
	}
}

func TestTextOfEveryInstruction(t *testing.T) {
	for _, k := range []struct{ source, destination, at int }{{0, 7, 0}, {8, 65535, 65535}, {65530, 0, -3}} {
		all := instructions(k.source, k.destination)
		seen := map[api.Op]bool{}
		for _, i := range all {
			seen[i.Op] = true
			checkText(t, i, k.at, wantText(i, k.at))
		}
		if len(seen) != len(rows) {
			t.Fatalf("%d operations were checked, want %d", len(seen), len(rows))
		}
	}
}

func TestTextAtEveryAddress(t *testing.T) {
	for at := range 65536 {
		for _, i := range []api.Inst{{Op: api.OpMov, Src: ext(6, 7, 5), Dst: ext(7, 7, 65535)}, {Op: api.OpBr, Num: -128}, {Op: api.OpBgt, Num: 127}, {Op: api.OpSob, Reg: 1, Num: 63}, {Op: api.OpMtp, Dst: ext(6, 7, 32768)}} {
			want := wantText(i, at)
			checkText(t, i, at, want)
			checkText(t, i, at+65536, want)
			checkText(t, i, at-65536, want)
		}
	}
}

func TestTextOfNoInstruction(t *testing.T) {
	for _, i := range []api.Inst{
		{}, {Op: -1}, {Op: 57}, {Op: math.MaxInt}, {Op: math.MinInt}, {Dst: reg(1)}, {Num: 1},
		{Op: api.OpAdd, Byte: true}, {Op: api.OpSwab, Byte: true}, {Op: api.OpBr, Byte: true}, {Op: api.OpHalt, Byte: true}, {Op: api.OpCcc, Byte: true},
		{Op: api.OpMov, Src: api.Operand{Mode: 8}}, {Op: api.OpMov, Dst: api.Operand{Reg: 8}}, {Op: api.OpMov, Src: api.Operand{Ext: 1}}, {Op: api.OpMov, Dst: ext(6, 7, 65536)}, {Op: api.OpMov, Src: ext(2, 7, -1)}, {Op: api.OpMov, Reg: 1}, {Op: api.OpMov, Num: 1},
		{Op: api.OpMul, Reg: 8}, {Op: api.OpMul, Reg: -1}, {Op: api.OpMul, Dst: reg(1)}, {Op: api.OpDiv, Reg: 1}, {Op: api.OpDiv, Reg: 7}, {Op: api.OpXor, Reg: 8}, {Op: api.OpXor, Src: reg(1)},
		{Op: api.OpClr, Src: reg(1)}, {Op: api.OpClr, Reg: 1}, {Op: api.OpClr, Dst: api.Operand{Mode: -1}}, {Op: api.OpMfp, Dst: reg(6)}, {Op: api.OpMtp, Src: reg(6)},
		{Op: api.OpJmp}, {Op: api.OpJmp, Dst: reg(7)}, {Op: api.OpJsr, Reg: 5}, {Op: api.OpJsr, Reg: 8, Dst: mode(1, 1)}, {Op: api.OpRts, Reg: 8}, {Op: api.OpRts, Reg: -1}, {Op: api.OpRts, Num: 1},
		{Op: api.OpBr, Num: 128}, {Op: api.OpBr, Num: -129}, {Op: api.OpBcs, Num: 255}, {Op: api.OpBr, Reg: 1}, {Op: api.OpSob, Num: -1}, {Op: api.OpSob, Num: 64}, {Op: api.OpSob, Reg: 8}, {Op: api.OpEmt, Num: 256}, {Op: api.OpTrap, Num: -1}, {Op: api.OpTrap, Num: math.MinInt}, {Op: api.OpBpt, Num: 3}, {Op: api.OpHalt, Reg: 1}, {Op: api.OpRset, Dst: mode(1, 0)},
		{Op: api.OpCcc, Num: -1}, {Op: api.OpCcc, Num: 16}, {Op: api.OpCcc, Reg: 1}, {Op: api.OpCcc, Num: 1, Dst: reg(1)}, {Op: api.OpScc, Num: -8}, {Op: api.OpScc, Num: 17}, {Op: api.OpScc, Num: 8, Byte: true}, {Op: api.OpScc, Num: math.MaxInt},
	} {
		for _, at := range someAddresses {
			checkText(t, i, at, "")
		}
	}
}

// P7.4

// checkLines checks the lines of words, which are followed by others in memory, and that the words are not changed.
func checkLines(t *testing.T, l []int, at int, want ...string) {
	t.Helper()
	behind := append(slices.Clone(l), 5, 0o012701, 6)
	before := slices.Clone(behind)
	if got := disasm.Lines(behind[:len(l)], at); !slices.Equal(got, want) {
		t.Fatalf("Lines(%#o, %d) = %q, want %q", l, at, got, want)
	}
	if !slices.Equal(behind, before) {
		t.Fatalf("Lines has changed %#o to %#o", before, behind)
	}
}

// notWords has integers that are no words.
var notWords = []int{-1, -2, -240, -32768, -65535, -65536, -65531, 65536, 65537, 65536 + 0o012701, 65536 + 0o005000, 131072, 1 << 31, 1<<32 + 5, 1 << 40, 1<<62 + 3, math.MaxInt, math.MinInt, math.MinInt + 5}

func TestLinesExamples(t *testing.T) {
	checkLines(t, []int{0o012701, 5, 0o000007}, 0, "000000 mov #5, r1", "000004 .word 0o000007")
	checkLines(t, []int{0o000777}, 0, "000000 br 0")
}

func TestLinesOfProgram(t *testing.T) {
	checkLines(t, []int{0o012706, 0o1000, 0o005000, 0o060100, 0o077102, 0o016737, 4, 6, 0o000261, 0o000260, 0o104404, 0}, 512,
		"001000 mov #0o1000, sp", "001004 clr r0", "001006 add r1, r0", "001010 sob r1, 0o1006", "001012 mov 0o1022, @#6", "001020 sec", "001022 scc 0", "001024 trap 4", "001026 halt")
}

func TestLinesOfNoWords(t *testing.T) {
	for _, at := range someAddresses {
		checkLines(t, nil, at)
		checkLines(t, []int{}, at)
	}
}

func TestLinesOfNoInstructions(t *testing.T) {
	checkLines(t, []int{7, 0o000100, 0o071102, 0o107777, 0o177777, 0o000240}, 0,
		"000000 .word 0o000007", "000002 .word 0o000100", "000004 .word 0o071102", "000006 .word 0o107777", "000010 .word 0o177777", "000012 nop")
	count := 0
	for w := range 65536 {
		if _, n := inst.Decode([]int{w, 0, 0}); n == 0 {
			count++
			checkLines(t, []int{w, 0}, 8, fmt.Sprintf("000010 .word 0o%06o", w), "000012 halt")
		}
	}
	if count == 0 {
		t.Error("every word is an instruction")
	}
}

func TestLinesOfIntegersThatAreNoWords(t *testing.T) {
	for _, x := range notWords {
		word := fmt.Sprintf(".word 0o%06o", modulo(x))
		checkLines(t, []int{x}, 0, "000000 "+word)
		checkLines(t, []int{x, 1, x}, 0, "000000 "+word, "000002 wait", "000004 "+word)
		checkLines(t, []int{0o012701, x}, 0, "000000 .word 0o012701", "000002 "+word)
		checkLines(t, []int{0o016737, 3, x, 0}, 0, "000000 .word 0o016737", "000002 bpt", "000004 "+word, "000006 halt")
		checkLines(t, []int{0o016737, x, 3}, 0, "000000 .word 0o016737", "000002 "+word, "000004 bpt")
	}
	checkLines(t, []int{-1, 65536 + 0o012701, math.MinInt}, 0, "000000 .word 0o177777", "000002 .word 0o012701", "000004 .word 0o000000")
}

func TestLinesWithoutExtensionWords(t *testing.T) {
	checkLines(t, []int{0o012701}, 0, "000000 .word 0o012701")
	checkLines(t, []int{0o016737}, 0, "000000 .word 0o016737")
	checkLines(t, []int{0o016737, 4}, 0, "000000 .word 0o016737", "000002 iot")
	checkLines(t, []int{0o016737, 0o016737}, 0, "000000 .word 0o016737", "000002 .word 0o016737")
	checkLines(t, []int{0o016737, 0o005037}, 0, "000000 .word 0o016737", "000002 .word 0o005037")
	checkLines(t, []int{0o016737, 0o005037, 6}, 0, "000000 mov 0o5043, @#6")
	checkLines(t, []int{1, 0o016737, 0o005000}, 0, "000000 wait", "000002 .word 0o016737", "000004 clr r0")
}

func TestLinesFromAnyAddress(t *testing.T) {
	l := []int{0o000777, 7, 0o005267, 0, 0o000240}
	for _, k := range []struct {
		at   int
		want []string
	}{
		{1, []string{"000001 br 1", "000003 .word 0o000007", "000005 inc 0o11", "000011 nop"}},
		{513, []string{"001001 br 0o1001", "001003 .word 0o000007", "001005 inc 0o1011", "001011 nop"}},
		{-2, []string{"177776 br 0o177776", "000000 .word 0o000007", "000002 inc 6", "000006 nop"}},
		{-1, []string{"177777 br 0o177777", "000001 .word 0o000007", "000003 inc 7", "000007 nop"}},
		{65532, []string{"177774 br 0o177774", "177776 .word 0o000007", "000000 inc 4", "000004 nop"}},
		{65530, []string{"177772 br 0o177772", "177774 .word 0o000007", "177776 inc 2", "000002 nop"}},
		{65528, []string{"177770 br 0o177770", "177772 .word 0o000007", "177774 inc 0", "000000 nop"}},
		{65527, []string{"177767 br 0o177767", "177771 .word 0o000007", "177773 inc 0o177777", "177777 nop"}},
		{65536, []string{"000000 br 0", "000002 .word 0o000007", "000004 inc 0o10", "000010 nop"}},
		{65536 + 512, []string{"001000 br 0o1000", "001002 .word 0o000007", "001004 inc 0o1010", "001010 nop"}},
		{1 << 40, []string{"000000 br 0", "000002 .word 0o000007", "000004 inc 0o10", "000010 nop"}},
		{math.MaxInt, []string{"177777 br 0o177777", "000001 .word 0o000007", "000003 inc 7", "000007 nop"}},
		{math.MinInt, []string{"000000 br 0", "000002 .word 0o000007", "000004 inc 0o10", "000010 nop"}},
	} {
		checkLines(t, l, k.at, k.want...)
	}
}

func TestLinesOfEveryInstruction(t *testing.T) {
	for _, i := range instructions(65533, 6) {
		l, _ := inst.Encode(i)
		for _, at := range []int{0, 65533} {
			checkLines(t, append(l, 7), at, fmt.Sprintf("%06o %s", at, wantText(i, at)), fmt.Sprintf("%06o .word 0o000007", modulo(at+2*len(l))))
		}
	}
}

func TestLinesReturnsNewMemory(t *testing.T) {
	l := []int{0o012701, 5, 7}
	first := disasm.Lines(l, 0)
	first[0], first[1] = "", ""
	checkLines(t, l, 0, "000000 mov #5, r1", "000004 .word 0o000007")
}

// P7.5

func TestByNameOfName(t *testing.T) {
	for op := api.Op(-3); op <= 60; op++ {
		for _, byte := range []bool{false, true} {
			if s := disasm.Name(op, byte); s != "" {
				checkByName(t, s, op, byte, true)
			}
		}
	}
}

func TestByNameOfTexts(t *testing.T) {
	for _, i := range instructions(1, 65535) {
		name, _, _ := strings.Cut(disasm.Text(i, 100), " ")
		checkByName(t, name, i.Op, i.Byte, true)
	}
}

func TestTextsOfDifferentInstructions(t *testing.T) {
	for _, at := range []int{0, 65533} {
		known := map[string]api.Inst{}
		for _, source := range []int{0, 7, 65535} {
			for _, destination := range []int{0, 7, 65535} {
				for _, i := range instructions(source, destination) {
					s := disasm.Text(i, at)
					if other, ok := known[s]; ok && other != i || s == "" {
						t.Fatalf("at %d, %+v and %+v have the text %q", at, i, other, s)
					}
					known[s] = i
				}
			}
		}
	}
}

func TestTextsOfDifferentExtensionWords(t *testing.T) {
	for _, at := range []int{0, 65533} {
		known := map[string]api.Inst{}
		for x := range 65536 {
			for _, i := range []api.Inst{
				{Op: api.OpMov, Src: ext(2, 7, x)}, {Op: api.OpMov, Src: ext(3, 7, x)}, {Op: api.OpMov, Src: ext(6, 0, x)}, {Op: api.OpMov, Src: ext(6, 7, x)}, {Op: api.OpMov, Src: ext(7, 0, x)}, {Op: api.OpMov, Src: ext(7, 7, x)}, {Op: api.OpMov, Dst: ext(6, 7, x)}, {Op: api.OpMov, Dst: ext(7, 7, x)},
			} {
				s := disasm.Text(i, at)
				if other, ok := known[s]; ok || s == "" {
					t.Fatalf("at %d, %+v and %+v have the text %q", at, i, other, s)
				}
				known[s] = i
			}
		}
	}
}

func TestAddressesOfLines(t *testing.T) {
	l := make([]int, 32768)
	for k := range l {
		l[k] = k * 40503 % 65537 // some integers that are no instructions, and one that is no word
	}
	lines := disasm.Lines(l, 0)
	at, rest := 0, l
	for _, s := range lines {
		if !strings.HasPrefix(s, fmt.Sprintf("%06o ", at)) {
			t.Fatalf("the line %q does not stand at %#o", s, at)
		}
		_, n := inst.Decode(rest)
		n = max(n, 1)
		at, rest = at+2*n, rest[n:]
	}
	if len(rest) != 0 || !slices.IsSorted(lines) || at != 65536 {
		t.Errorf("%d words are left, the last line ends at %#o", len(rest), at)
	}
}
