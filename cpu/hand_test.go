package cpu_test

import (
	"fmt"
	"slices"
	"strings"
	"testing"

	"emulator/api"
	"emulator/cpu"
)

// P19.4: Execute. The tests of this file compute by hand.

// begun returns a machine of 1024 bytes in kernel mode, without memory management, with the words at 64, where PC is.
func begun(words ...int) api.Machine {
	m := blank(1024, 1)
	m.Cpu.SP, m.Cpu.PC = [2]int{512, 768}, 64
	copy(m.Mem[32:], words)
	return m
}

// deed is an instruction, what is set before it, and what it changes besides PC, which moves past the words unless it is among the changes.
type deed struct {
	name          string
	words         []int
	before, after string
}

// expectDeeds executes instructions whose words are not in memory, and, unless what is set before lies in their place, ones that are fetched there.
func expectDeeds(t *testing.T, l []deed) {
	t.Helper()
	fetched := 0
	for _, d := range l {
		m := with(begun(), d.before)
		check := func(m, got api.Machine, trap api.Trap) {
			t.Helper()
			want := with(m, fmt.Sprintf("pc=%d %s", remainder(m.Cpu.PC+2*len(d.words), 65536), d.after))
			if trap != api.TrNone || !same(got, want) {
				t.Errorf("%s (%s): trap %d, differences: %s\ngot  %+v\nwant %+v", d.name, d.before, trap, differences(got, want), got.Cpu, want.Cpu)
			}
		}
		got, trap := execute(t, m, d.words)
		check(m, got, trap)
		m = with(begun(d.words...), d.before)
		if m.Cpu.PC != 64 || !slices.Equal(m.Mem[32:32+len(d.words)], d.words) {
			continue
		}
		fetched++
		i, n, x, trap := fetch(t, m)
		if trap != api.TrNone || n != len(d.words) || !same(x, m) {
			t.Errorf("%s: fetched with the trap %d as %d words", d.name, trap, n)
		}
		got, trap = cpu.Execute(x, i, n)
		check(m, got, trap)
	}
	if 4*fetched < len(l) {
		t.Errorf("only %d of %d instructions have been fetched", fetched, len(l))
	}
}

func TestOperationsOnTwoOperands(t *testing.T) {
	expectDeeds(t, []deed{
		{"mov r0, r1", []int{0o010001}, "r0=5 r1=9 ps=3", "r1=5 ps=1"},
		{"mov r0, r1", []int{0o010001}, "r0=0x8000 ps=7", "r1=0x8000 ps=9"},
		{"mov r0, r1", []int{0o010001}, "r0=0 r1=7 ps=10", "r1=0 ps=4"},
		{"movb r0, r1", []int{0o110001}, "r0=0x1280 r1=7", "r1=0xFF80 ps=8"},
		{"movb r0, r1", []int{0o110001}, "r0=0xFF7F r1=0xFFFF ps=15", "r1=0x7F ps=1"},
		{"movb r0, r1", []int{0o110001}, "r0=0xFF00 r1=0xFFFF", "r1=0 ps=4"},
		{"movb r0, r0", []int{0o110000}, "r0=0x12FE", "r0=0xFFFE ps=8"},
		{"movb r0, (r1)", []int{0o110011}, "r0=0x12FE r1=100 w100=0x5678", "w100=0x56FE ps=8"},
		{"movb r0, (r1)", []int{0o110011}, "r0=0x1203 r1=101 w100=0x5678", "w100=0x0378"},
		{"mov (r0), (r1)", []int{0o011011}, "r0=100 r1=102 w100=0x1234", "w102=0x1234"},
		{"movb (r0), (r1)", []int{0o111011}, "r0=101 r1=102 w100=0x9234 w102=0xFFFF", "w102=0xFF92 ps=8"},
		{"cmp r0, r1", []int{0o020001}, "r0=1 r1=2", "ps=9"},
		{"cmp r0, r1", []int{0o020001}, "r0=2 r1=1 ps=15", "ps=0"},
		{"cmp r0, r1", []int{0o020001}, "r0=32768 r1=1", "ps=2"},
		{"cmp r0, r1", []int{0o020001}, "r0=1 r1=32768", "ps=11"},
		{"cmp r0, r1", []int{0o020001}, "r0=7 r1=7 ps=11", "ps=4"},
		{"cmpb r0, r1", []int{0o120001}, "r0=0x1205 r1=0xFF05", "ps=4"},
		{"cmpb r0, r1", []int{0o120001}, "r0=0x0080 r1=0x0F01", "ps=2"},
		{"cmpb (r0), r1", []int{0o121001}, "r0=101 w100=0x0300 r1=0x0904", "ps=9"},
		{"bit r0, r1", []int{0o030001}, "r0=6 r1=8 ps=3", "ps=5"},
		{"bit r0, r1", []int{0o030001}, "r0=0x8001 r1=0x8000", "ps=8"},
		{"bitb r0, r1", []int{0o130001}, "r0=0x0100 r1=0x0100", "ps=4"},
		{"bitb r0, r1", []int{0o130001}, "r0=0x01FF r1=0x0080", "ps=8"},
		{"bic r0, r1", []int{0o040001}, "r0=0x0F0F r1=0xFFFF ps=2", "r1=0xF0F0 ps=8"},
		{"bicb r0, r1", []int{0o140001}, "r0=0xFF0F r1=0x12FF ps=1", "r1=0x12F0 ps=9"},
		{"bis r0, r1", []int{0o050001}, "r0=1 r1=2 ps=15", "r1=3 ps=1"},
		{"bisb r0, r1", []int{0o150001}, "r0=0xFF01 r1=0x1202", "r1=0x1203"},
		{"add r0, r1", []int{0o060001}, "r0=65535 r1=1", "r1=0 ps=5"},
		{"add r1, r0", []int{0o060100}, "r0=32767 r1=1", "r0=32768 ps=10"},
		{"add r0, (r1)", []int{0o060011}, "r0=3 r1=100 w100=4 ps=15", "w100=7 ps=0"},
		{"sub r0, r1", []int{0o160001}, "r0=1 r1=0", "r1=65535 ps=9"},
		{"sub r0, r1", []int{0o160001}, "r0=1 r1=32768", "r1=32767 ps=2"},
		{"sub r0, r1", []int{0o160001}, "r0=3 r1=5 ps=15", "r1=2 ps=0"},
		{"sub (r0), (r1)", []int{0o161011}, "r0=100 r1=102 w100=0x0100 w102=0x1234", "w102=0x1134"},
		{"xor r0, r1", []int{0o074001}, "r0=0x00FF r1=0x8F0F ps=3", "r1=0x8FF0 ps=9"},
		{"xor r0, (r1)", []int{0o074011}, "r0=6 r1=100 w100=6", "w100=0 ps=4"},
		{"xor r0, (r0)+", []int{0o074020}, "r0=100 w100=3", "r0=102 w100=103"},
		{"xor r0, -(r0)", []int{0o074040}, "r0=102 w100=3", "r0=100 w100=101"},
		{"xor pc, r0", []int{0o074700}, "", "r0=66"},
		{"xor pc, @#100", []int{0o074737, 100}, "w100=2", "w100=64"},
		{"xor r0, pc", []int{0o074007}, "r0=2", "pc=64"},
	})
}

func TestOperationsOnOneOperand(t *testing.T) {
	expectDeeds(t, []deed{
		{"clr r1", []int{0o005001}, "r1=5 ps=15", "r1=0 ps=4"},
		{"clrb r1", []int{0o105001}, "r1=0x1234 ps=11", "r1=0x1200 ps=4"},
		{"clrb (r1)", []int{0o105011}, "r1=101 w100=0x1234", "w100=0x0034 ps=4"},
		{"com r1", []int{0o005101}, "r1=0x00FF ps=2", "r1=0xFF00 ps=9"},
		{"comb r1", []int{0o105101}, "r1=0x120F", "r1=0x12F0 ps=9"},
		{"inc r1", []int{0o005201}, "r1=32767 ps=1", "r1=32768 ps=11"},
		{"inc r1", []int{0o005201}, "r1=65535 ps=0", "r1=0 ps=4"},
		{"incb r1", []int{0o105201}, "r1=0x12FF", "r1=0x1200 ps=4"},
		{"dec r1", []int{0o005301}, "r1=0", "r1=65535 ps=8"},
		{"dec r1", []int{0o005301}, "r1=1 ps=1", "r1=0 ps=5"},
		{"decb r1", []int{0o105301}, "r1=0x1280 ps=15", "r1=0x127F ps=3"},
		{"neg r1", []int{0o005401}, "r1=1", "r1=65535 ps=9"},
		{"neg r1", []int{0o005401}, "r1=0 ps=15", "ps=4"},
		{"negb r1", []int{0o105401}, "r1=0x1280", "r1=0x1280 ps=11"},
		{"adc r1", []int{0o005501}, "r1=65535 ps=1", "r1=0 ps=5"},
		{"adc r1", []int{0o005501}, "r1=7 ps=14", "ps=0"},
		{"adcb r1", []int{0o105501}, "r1=0x127F ps=1", "r1=0x1280 ps=10"},
		{"sbc r1", []int{0o005601}, "r1=0 ps=1", "r1=65535 ps=9"},
		{"sbcb r1", []int{0o105601}, "r1=0x1280 ps=1", "r1=0x127F ps=2"},
		{"tst r1", []int{0o005701}, "r1=0x8000 ps=15", "ps=8"},
		{"tst r1", []int{0o005701}, "r1=0x0080 ps=15", "ps=0"},
		{"tstb r1", []int{0o105701}, "r1=0x1200", "ps=4"},
		{"tstb (r1)", []int{0o105711}, "r1=101 w100=0x8000 ps=3", "ps=8"},
		{"ror r1", []int{0o006001}, "r1=1 ps=1", "r1=32768 ps=9"},
		{"ror r1", []int{0o006001}, "r1=1 ps=0", "r1=0 ps=7"},
		{"rorb r1", []int{0o106001}, "r1=0x1202 ps=1", "r1=0x1281 ps=10"},
		{"rol r1", []int{0o006101}, "r1=0x8000 ps=1", "r1=1 ps=3"},
		{"rolb r1", []int{0o106101}, "r1=0xFF80", "r1=0xFF00 ps=7"},
		{"asr r1", []int{0o006201}, "r1=0x8001", "r1=0xC000 ps=9"},
		{"asrb r1", []int{0o106201}, "r1=0x0183", "r1=0x01C1 ps=9"},
		{"asl r1", []int{0o006301}, "r1=0x4000 ps=1", "r1=0x8000 ps=10"},
		{"aslb r1", []int{0o106301}, "r1=0x1240", "r1=0x1280 ps=10"},
		{"swab r1", []int{0o000301}, "r1=0x0180 ps=15", "r1=0x8001 ps=0"},
		{"swab (r1)", []int{0o000311}, "r1=100 w100=0x8001", "w100=0x0180 ps=8"},
		{"sxt r1", []int{0o006701}, "r1=7 ps=11", "r1=65535 ps=9"},
		{"sxt r1", []int{0o006701}, "r1=7 ps=3", "r1=0 ps=5"},
		{"sxt (r1)", []int{0o006711}, "r1=100 w100=7 ps=8", "w100=0xFFFF"},
		{"inc sp", []int{0o005206}, "", "sp=513"},
		{"decb sp", []int{0o105306}, "", "sp=767 ps=8"},
		{"clrb pc", []int{0o105007}, "pc=322", "pc=256 ps=4"},
		{"inc pc", []int{0o005207}, "", "pc=67"},
		{"movb r0, pc", []int{0o110007}, "r0=0x1285", "pc=0xFF85 ps=8"},
		{"movb pc, r0", []int{0o110700}, "pc=446", "r0=0xFFC0 ps=8"},
		{"bisb r0, sp", []int{0o150006}, "r0=0xFF05", "sp=517"},
	})
}

func TestMultiplicationDivisionAndShift(t *testing.T) {
	expectDeeds(t, []deed{
		{"mul r1, r2", []int{0o070201}, "r1=256 r2=256 ps=14", "r2=1 r3=0 ps=1"},
		{"mul r1, r2", []int{0o070201}, "r1=2 r2=65535 r3=9", "r2=65535 r3=65534 ps=8"},
		{"mul r1, r2", []int{0o070201}, "r1=0 r2=5 r3=9 ps=11", "r2=0 r3=0 ps=4"},
		{"mul r1, r3", []int{0o070301}, "r1=300 r2=7 r3=256", "r3=11264 ps=1"},
		{"mul r3, r3", []int{0o070303}, "r3=5 r2=7", "r3=25"},
		{"mul r0, sp", []int{0o070600}, "r0=258 sp=256", "sp=1 pc=512 ps=1"},
		{"mul r0, pc", []int{0o070700}, "r0=2", "pc=132"},
		{"mul #3, pc", []int{0o070727, 3}, "w66=3", "pc=204"},
		{"mul (r2)+, r2", []int{0o070222}, "r2=100 w100=3", "r2=0 r3=306"},
		{"mul -(r1), r1", []int{0o070141}, "r1=102 w100=3", "r1=300"},
		{"div r1, r2", []int{0o071201}, "r1=65534 r3=7", "r2=65533 r3=1 ps=8"},
		{"div r1, r2", []int{0o071201}, "r1=0 r2=0 r3=5 ps=12", "ps=3"},
		{"div r1, r2", []int{0o071201}, "r1=1 r2=1 r3=0 ps=13", "ps=2"},
		{"div r1, r2", []int{0o071201}, "r1=7 r2=65535 r3=65534 ps=15", "r2=0 r3=65534 ps=4"},
		{"div r3, r2", []int{0o071203}, "r2=0 r3=9", "r2=1 r3=0"},
		{"div r0, sp", []int{0o071600}, "r0=7 sp=0", "sp=9 pc=3"},
		{"div #7, sp", []int{0o071627, 7}, "sp=0 w66=7", "sp=9 pc=5"},
		{"div (r2)+, r2", []int{0o071222}, "r2=100 r3=2 w100=0x7000", "r2=233 r3=4098"},
		{"ash r1, r2", []int{0o072201}, "r1=1 r2=16384 r3=9", "r2=32768 ps=10"},
		{"ash r1, r2", []int{0o072201}, "r1=65535 r2=32769 r3=9", "r2=49152 ps=9"},
		{"ash r1, r2", []int{0o072201}, "r1=64 r2=5 ps=15", "ps=0"},
		{"ash r1, r3", []int{0o072301}, "r1=1 r2=9 r3=3", "r3=6"},
		{"ash r0, sp", []int{0o072600}, "r0=65535", "sp=256"},
		{"ash r0, pc", []int{0o072700}, "r0=1", "pc=132"},
		{"ash r3, r3", []int{0o072303}, "r3=3", "r3=24"},
	})
}

func TestAddressingModes(t *testing.T) {
	expectDeeds(t, []deed{
		{"inc (r1)", []int{0o005211}, "r1=100 w100=5", "w100=6"},
		{"inc (r1)+", []int{0o005221}, "r1=100 w100=5", "w100=6 r1=102"},
		{"incb (r1)+", []int{0o105221}, "r1=101 w100=0x0500", "w100=0x0600 r1=102"},
		{"inc @(r1)+", []int{0o005231}, "r1=100 w100=200 w200=5", "w200=6 r1=102"},
		{"incb @(r1)+", []int{0o105231}, "r1=100 w100=201 w200=0x0500", "w200=0x0600 r1=102"},
		{"inc -(r1)", []int{0o005241}, "r1=102 w100=5", "w100=6 r1=100"},
		{"incb -(r1)", []int{0o105241}, "r1=102 w100=0x0500", "w100=0x0600 r1=101"},
		{"inc @-(r1)", []int{0o005251}, "r1=102 w100=200 w200=5", "w200=6 r1=100"},
		{"incb @-(r1)", []int{0o105251}, "r1=102 w100=201 w200=0x0500", "w200=0x0600 r1=100"},
		{"inc 6(r1)", []int{0o005261, 6}, "r1=100 w106=5", "w106=6"},
		{"inc -6(r1)", []int{0o005261, 65530}, "r1=106 w100=5", "w100=6"},
		{"incb 6(r1)", []int{0o105261, 6}, "r1=101 w106=0x0500", "w106=0x0600"},
		{"inc @6(r1)", []int{0o005271, 6}, "r1=100 w106=200 w200=5", "w200=6"},
		{"incb @6(r1)", []int{0o105271, 6}, "r1=100 w106=201 w200=0x0500", "w200=0x0600"},
		{"inc @#100", []int{0o005237, 100}, "w100=5", "w100=6"},
		{"incb @#101", []int{0o105237, 101}, "w100=0x0500", "w100=0x0600"},
		{"inc #5", []int{0o005227, 5}, "w66=5", "w66=6"},
		{"incb #5", []int{0o105227, 5}, "w66=0x01FF", "w66=0x0100 ps=4"},
		{"inc 100", []int{0o005267, 32}, "w100=5", "w100=6"},
		{"inc @100", []int{0o005277, 32}, "w100=200 w200=5", "w200=6"},
		{"inc (pc)", []int{0o005217}, "w66=5", "w66=6"},
		{"inc -(pc)", []int{0o005247}, "w64=5", "w64=6 pc=64"},
		{"incb -(pc)", []int{0o105247}, "w64=5", "w64=6 pc=64"},
		{"inc @-(pc)", []int{0o005257}, "w64=200 w200=5", "w200=6 pc=64"},
		{"incb (sp)+", []int{0o105226}, "w512=5", "w512=6 sp=514"},
		{"incb -(sp)", []int{0o105246}, "w510=5", "w510=6 sp=510"},
		{"inc @(sp)+", []int{0o005236}, "w512=200 w200=5", "w200=6 sp=514"},
		{"inc 2(sp)", []int{0o005266, 2}, "w514=5", "w514=6"},
		{"inc (sp)+, user", []int{0o005226}, "ps=0x8000 w768=5", "w768=6 usp=770"},
	})
}

func TestOperandsOneAfterTheOther(t *testing.T) {
	expectDeeds(t, []deed{
		{"mov r0, (r0)+", []int{0o010020}, "r0=100", "w100=100 r0=102"},
		{"mov r0, -(r0)", []int{0o010040}, "r0=100", "w98=100 r0=98"},
		{"mov (r0)+, (r0)+", []int{0o012020}, "r0=100 w100=7", "w102=7 r0=104"},
		{"mov -(r0), -(r0)", []int{0o014040}, "r0=104 w102=7", "w100=7 r0=100"},
		{"mov (r0)+, r0", []int{0o012000}, "r0=100 w100=7", "r0=7"},
		{"add (r0)+, r0", []int{0o062000}, "r0=100 w100=7", "r0=109"},
		{"add r0, (r0)+", []int{0o060020}, "r0=100 w100=7", "w100=107 r0=102"},
		{"sub -(r0), r0", []int{0o164000}, "r0=102 w100=7", "r0=93"},
		{"cmp (r0)+, (r0)+", []int{0o022020}, "r0=100 w100=7 w102=8", "r0=104 ps=9"},
		{"cmpb (r0)+, (r0)+", []int{0o122020}, "r0=100 w100=0x0807", "r0=102 ps=9"},
		{"mov @(r0)+, @(r0)+", []int{0o013030}, "r0=100 w100=200 w102=300 w200=7", "w300=7 r0=104"},
		{"mov pc, r0", []int{0o010700}, "", "r0=66"},
		{"mov pc, @#100", []int{0o010737, 100}, "", "w100=66"},
		{"add #2, pc", []int{0o062707, 2}, "w66=2", "pc=70"},
		{"mov #5, @#100", []int{0o012737, 5, 100}, "w66=5", "w100=5"},
		{"mov #5, #6", []int{0o012727, 5, 6}, "w66=5 w68=6", "w68=5"},
		{"movb #5, r0", []int{0o112700, 0x1285}, "w66=0x1285", "r0=0xFF85 ps=8"},
		{"mov 4(r0), 6(r1)", []int{0o016061, 4, 6}, "r0=100 r1=200 w104=7", "w206=7"},
		{"mov 100, 100", []int{0o016767, 32, 30}, "w100=0x8001", "w100=0x8001 ps=8"},
		{"mov @#100, @200(r1)", []int{0o013771, 100, 200}, "r1=4 w100=7 w204=300", "w300=7"},
		{"mov (sp)+, -(sp)", []int{0o012646}, "w512=7", ""},
		{"mov sp, -(sp)", []int{0o010646}, "", "w510=512 sp=510"},
		{"mov (sp)+, sp", []int{0o012606}, "w512=300", "sp=300"},
		{"mov -(pc), r0", []int{0o014700}, "w64=7", "r0=7 pc=64"},
		// PC moves by a word for the extension, wherever the first operand has moved it to.
		{"mov -(pc), @#100", []int{0o014737, 100}, "w64=7", "w100=7 pc=66"},
		{"mov -(pc), 30(pc)", []int{0o014767, 30}, "w64=7", "w96=7 pc=66"},
		{"mov -(pc), #5", []int{0o014727, 5}, "w64=7 w66=9", "pc=66"},
		{"mov @-(pc), 30(pc)", []int{0o015767, 30}, "w64=200 w200=7", "w96=7 pc=66"},
	})
}

// The immediate operand is what memory has there, not what was fetched.
func TestImmediateOperandsAreInMemory(t *testing.T) {
	expectDeeds(t, []deed{
		{"mov #5, r1", []int{0o012701, 5}, "w66=9", "r1=9"},
		{"mov r1, #5", []int{0o010127, 5}, "r1=9 w66=5", "w66=9"},
		{"add #5, #6", []int{0o062727, 5, 6}, "w66=1 w68=2", "w68=3"},
		{"cmp #5, #5", []int{0o022727, 5, 5}, "w66=1 w68=2", "ps=9"},
		{"jmp #5", []int{0o000127, 5}, "w66=300", "pc=66"},
		{"mfp #5", []int{0o006527, 5}, "w66=9", "w510=9 sp=510"},
		{"mtp #5", []int{0o006627, 5}, "w66=5 w512=9", "w66=9 sp=514"},
	})
}

func TestAddressesModulo65536(t *testing.T) {
	expectDeeds(t, []deed{
		{"inc 4(r1)", []int{0o005261, 4}, "r1=65534 w2=7", "w2=8"},
		{"inc 65535(r1)", []int{0o005261, 65535}, "r1=65535 w510=7 r1=1 w0=7", "w0=8"},
		{"inc @4(r1)", []int{0o005271, 4}, "r1=65532 w0=100 w100=7", "w100=8"},
		{"incb 65535(r1)", []int{0o105261, 65535}, "r1=2 w0=0x0700", "w0=0x0800"},
		{"clr -(r1)", []int{0o005041}, "r1=2 w0=9", "r1=0 w0=0 ps=4"},
		{"jmp (r1)+", []int{0o000121}, "r1=65534", "r1=0 pc=65534"},
		{"jmp -(r1)", []int{0o000141}, "r1=0", "r1=65534 pc=65534"},
		{"jmp -(r1)", []int{0o000141}, "r1=1", "r1=65535 pc=65535"},
		{"jmp 4(r1)", []int{0o000161, 4}, "r1=65534", "pc=2"},
		{"jmp 4(r1)", []int{0o000161, 4}, "r1=65535", "pc=3"},
		{"jmp @4(r1)", []int{0o000171, 4}, "r1=65532 w0=100", "pc=100"},
		{"sub r1, sp", []int{0o160106}, "r1=600", "sp=65448 ps=9"},
		{"ccc", []int{0o000240}, "pc=65534", ""},
		{"br", []int{0o000401}, "pc=65534", "pc=2"},
		{"br", []int{0o000776}, "pc=0", "pc=65534"},
		{"sob r1", []int{0o077102}, "pc=0 r1=5", "r1=4 pc=65534"},
		{"jmp 4(pc)", []int{0o000167, 4}, "pc=65532", "pc=4"},
		{"jsr pc, 4(pc)", []int{0o004767, 4}, "pc=65530", "w510=65534 sp=510 pc=2"},
		{"rts r5", []int{0o000205}, "r5=100 w512=7", "pc=100 r5=7 sp=514"},
		{"add #65535, pc", []int{0o062707, 65535}, "w66=65535", "pc=67 ps=1"},
	})
}

func TestJumps(t *testing.T) {
	expectDeeds(t, []deed{
		{"jmp (r1)", []int{0o000111}, "r1=100 ps=15", "pc=100"},
		{"jmp (r1) to an odd address", []int{0o000111}, "r1=101", "pc=101"},
		{"jmp (r1) beyond memory", []int{0o000111}, "r1=50000", "pc=50000"},
		{"jmp (r1)+", []int{0o000121}, "r1=100", "pc=100 r1=102"},
		{"jmp @(r1)+", []int{0o000131}, "r1=100 w100=201", "pc=201 r1=102"},
		{"jmp -(r1)", []int{0o000141}, "r1=100", "pc=98 r1=98"},
		{"jmp @-(r1)", []int{0o000151}, "r1=100 w98=200", "pc=200 r1=98"},
		{"jmp 6(r1)", []int{0o000161, 6}, "r1=100", "pc=106"},
		{"jmp @6(r1)", []int{0o000171, 6}, "r1=100 w106=200", "pc=200"},
		{"jmp @#100", []int{0o000137, 100}, "", "pc=100"},
		{"jmp 100", []int{0o000167, 32}, "", "pc=100"},
		{"jmp @100", []int{0o000177, 32}, "w100=200", "pc=200"},
		{"jmp (pc)", []int{0o000117}, "", "pc=66"},
		{"jmp -(pc)", []int{0o000147}, "", "pc=64"},
		{"jmp (sp)+", []int{0o000126}, "", "pc=512 sp=514"},
		{"jsr r5, @#200", []int{0o004537, 200}, "r5=7 ps=15", "w510=7 sp=510 r5=68 pc=200"},
		{"jsr pc, @#200", []int{0o004737, 200}, "", "w510=68 sp=510 pc=200"},
		{"jsr pc, (r1)", []int{0o004711}, "r1=101", "w510=66 sp=510 pc=101"},
		{"jsr sp, @#200", []int{0o004637, 200}, "", "w510=512 sp=68 pc=200"},
		{"jsr r1, (r1)+", []int{0o004121}, "r1=100", "w510=102 sp=510 r1=66 pc=100"},
		{"jsr r1, -(r1)", []int{0o004141}, "r1=100", "w510=98 sp=510 r1=66 pc=98"},
		{"jsr sp, (sp)+", []int{0o004626}, "", "w512=514 sp=66 pc=512"},
		{"jsr pc, @(sp)+", []int{0o004736}, "sp=510 w510=200", "w510=66 pc=200"},
		{"jsr pc, -(pc)", []int{0o004747}, "", "w510=64 sp=510 pc=64"},
		{"jsr r5, 6(r5)", []int{0o004565, 6}, "r5=100", "w510=100 sp=510 r5=68 pc=106"},
		{"jsr r0 in user mode", []int{0o004011}, "ps=0x8000 r0=7 r1=200", "w766=7 usp=766 r0=66 pc=200"},
		{"rts r5", []int{0o000205}, "r5=101 w512=7 ps=15", "pc=101 r5=7 sp=514"},
		{"rts pc", []int{0o000207}, "w512=201", "pc=201 sp=514"},
		{"rts sp", []int{0o000206}, "w512=300", "pc=512 sp=300"},
		{"rts r0 in user mode", []int{0o000200}, "ps=0x8000 r0=200 w768=7", "pc=200 r0=7 usp=770"},
		{"sob r1", []int{0o077105}, "r1=2 ps=15", "r1=1 pc=56"},
		{"sob r1 to 0", []int{0o077105}, "r1=1", "r1=0"},
		{"sob r1 from 0", []int{0o077105}, "r1=0 ps=4", "r1=65535 pc=56"},
		{"sob r1 with 0", []int{0o077100}, "r1=9", "r1=8"},
		{"sob r1 with 63", []int{0o077177}, "r1=9 pc=200", "r1=8 pc=76"},
		{"sob sp", []int{0o077601}, "", "sp=511 pc=64"},
		{"sob sp in user mode", []int{0o077601}, "ps=0x8000", "usp=767 pc=64"},
		{"sob pc", []int{0o077702}, "", "pc=61"},
	})
}

func TestOtherSpaces(t *testing.T) {
	expectDeeds(t, []deed{
		{"mfp r1", []int{0o006501}, "r1=0x8001 ps=7", "w510=0x8001 sp=510 ps=9"},
		{"mfp r1, previous user", []int{0o006501}, "r1=0 ps=0x400A", "w510=0 sp=510 ps=0x4004"},
		{"mfp sp", []int{0o006506}, "", "w510=512 sp=510"},
		{"mfp sp, previous user", []int{0o006506}, "ps=0x4000", "w510=768 ksp=510"},
		{"mfp sp in user mode, previous kernel", []int{0o006506}, "ps=0x8000", "w766=512 usp=766"},
		{"mfp sp in user mode, previous user", []int{0o006506}, "ps=0xC000", "w766=768 usp=766"},
		{"mfp pc", []int{0o006507}, "", "w510=66 sp=510"},
		{"mfp (r1)+", []int{0o006521}, "r1=100 w100=7", "w510=7 sp=510 r1=102"},
		{"mfp @(r1)+", []int{0o006531}, "r1=100 w100=200 w200=7", "w510=7 sp=510 r1=102"},
		{"mfp (sp)", []int{0o006516}, "w512=7", "w510=7 sp=510"},
		{"mfp (sp)+", []int{0o006526}, "w512=7", ""},
		{"mfp -(sp)", []int{0o006546}, "w510=7", "w508=7 sp=508"},
		{"mfp @(sp)+, previous user", []int{0o006536}, "w512=200 w200=7 ps=0x4000", "w512=7"},
		{"mfp 2(sp), previous user", []int{0o006566, 2}, "w514=7 ps=0x4000", "w510=7 ksp=510"},
		{"mtp r1", []int{0o006601}, "w512=0x8001 ps=7", "r1=0x8001 sp=514 ps=9"},
		{"mtp r1, previous user", []int{0o006601}, "w512=0 r1=9 ps=0x400A", "r1=0 ksp=514 ps=0x4004"},
		{"mtp sp", []int{0o006606}, "w512=300", "sp=300"},
		{"mtp sp, previous user", []int{0o006606}, "w512=300 ps=0x4000", "ksp=514 usp=300"},
		{"mtp sp in user mode, previous kernel", []int{0o006606}, "w768=300 ps=0x8000", "usp=770 ksp=300"},
		{"mtp sp in user mode, previous user", []int{0o006606}, "w768=300 ps=0xC000", "usp=300"},
		{"mtp pc", []int{0o006607}, "w512=301", "sp=514 pc=301"},
		{"mtp (sp)", []int{0o006616}, "w512=7", "w514=7 sp=514"},
		{"mtp (sp)+", []int{0o006626}, "w512=7", "w514=7 sp=516"},
		{"mtp -(sp)", []int{0o006646}, "w512=7", ""},
		{"mtp @(sp)+", []int{0o006636}, "w512=7 w514=200", "w200=7 sp=516"},
		{"mtp -(r1)", []int{0o006641}, "w512=7 r1=102", "w100=7 r1=100 sp=514"},
		{"mtp @#100", []int{0o006637, 100}, "w512=7", "w100=7 sp=514"},
	})
}

func TestReturnFromTraps(t *testing.T) {
	expectDeeds(t, []deed{
		{"rti", []int{2}, "w512=100 w514=0x00E5 ps=0x001A", "pc=100 sp=516 ps=0x00E5"},
		{"rti to user mode", []int{2}, "w512=101 w514=0xC0F5", "pc=101 ksp=516 ps=0xC0F5"},
		{"rti with bits that do not exist", []int{2}, "w512=100 w514=0xFFFF", "pc=100 ksp=516 ps=0xC0FF"},
		{"rti in user mode", []int{2}, "ps=0x8000 w768=100 w770=0x40FF", "pc=100 usp=772 ps=0x801F"},
		{"rti in user mode, previous user", []int{2}, "ps=0xC0FF w768=100 w770=0", "pc=100 usp=772 ps=0xC0E0"},
	})
}

func TestBranches(t *testing.T) {
	// The condition codes with which each branch is taken.
	taken := map[int]string{
		0o000400: "0 1 2 3 4 5 6 7 8 9 10 11 12 13 14 15", // br
		0o001000: "0 1 2 3 8 9 10 11",                     // bne
		0o001400: "4 5 6 7 12 13 14 15",                   // beq
		0o002000: "0 1 4 5 10 11 14 15",                   // bge
		0o002400: "2 3 6 7 8 9 12 13",                     // blt
		0o003000: "0 1 10 11",                             // bgt
		0o003400: "2 3 4 5 6 7 8 9 12 13 14 15",           // ble
		0o100000: "0 1 2 3 4 5 6 7",                       // bpl
		0o100400: "8 9 10 11 12 13 14 15",                 // bmi
		0o101000: "0 2 8 10",                              // bhi
		0o101400: "1 3 4 5 6 7 9 11 12 13 14 15",          // blos
		0o102000: "0 1 4 5 8 9 12 13",                     // bvc
		0o102400: "2 3 6 7 10 11 14 15",                   // bvs
		0o103000: "0 2 4 6 8 10 12 14",                    // bcc
		0o103400: "1 3 5 7 9 11 13 15",                    // bcs
	}
	if len(taken) != 15 {
		t.Fatal("not all branches")
	}
	for w, l := range taken {
		for codes := range 16 {
			for _, offset := range []int{0, 1, 2, 127, -128, -127, -2, -1} {
				m := with(begun(), fmt.Sprintf("pc=400 ps=%d", 0x80+codes))
				pc := 402
				if slices.Contains(strings.Fields(l), fmt.Sprint(codes)) {
					pc += 2 * offset
				}
				want := with(m, fmt.Sprintf("pc=%d", pc))
				got, trap := execute(t, m, []int{w + remainder(offset, 256)})
				if trap != api.TrNone || !same(got, want) {
					t.Errorf("%o %d with the condition codes %d: PC %d, want %d", w, offset, codes, got.Cpu.PC, pc)
				}
			}
		}
	}
}

func TestConditionCodes(t *testing.T) {
	for _, psw := range []int{0, 0xC0F0, 0x8050, 0x40A0} {
		for codes := range 16 {
			for n := range 16 {
				m := begun()
				m.Cpu.PSW = psw + codes
				want := with(m, fmt.Sprintf("pc=66 ps=%d", psw+codes&^n))
				if got, trap := execute(t, m, []int{0o240 + n}); trap != api.TrNone || !same(got, want) {
					t.Errorf("ccc %d with the condition codes %d: %#x", n, codes, got.Cpu.PSW)
				}
				want.Cpu.PSW = psw + codes | n
				if got, trap := execute(t, m, []int{0o260 + n}); trap != api.TrNone || !same(got, want) {
					t.Errorf("scc %d with the condition codes %d: %#x", n, codes, got.Cpu.PSW)
				}
			}
		}
	}
}

// All operations leave the bits of the PSW alone that are not condition codes.
func TestRestOfTheStatusWord(t *testing.T) {
	for w := 0o10; w < 65536; w++ {
		if lengthOf(w) != 1 {
			continue
		}
		m := begun()
		m.Cpu.PSW = 0x40B0
		m.Cpu.R = [6]int{100, 200, 300, 400, 500, 600}
		got, trap := execute(t, m, []int{w})
		if trap == api.TrNone && got.Cpu.PSW/16 != 0x40B {
			t.Fatalf("%o leaves the status word %#x", w, got.Cpu.PSW)
		}
	}
}

func TestTrapsThatDoNotAbort(t *testing.T) {
	for _, psw := range []int{0, 0xC0FF, 0x8000} {
		for code := range 256 {
			for _, k := range []struct {
				w    int
				trap api.Trap
			}{{0o104000 + code, api.TrEmt}, {0o104400 + code, api.TrTrap}, {3, api.TrBpt}, {4, api.TrIot}} {
				m := begun()
				m.Cpu.PSW = psw
				want := with(m, "pc=66")
				if got, trap := execute(t, m, []int{k.w}); trap != k.trap || !same(got, want) {
					t.Errorf("%o: trap %d, differences: %s", k.w, trap, differences(got, want))
				}
			}
		}
	}
	m := with(begun(), "pc=65534")
	if got, trap := execute(t, m, []int{4}); trap != api.TrIot || got.Cpu.PC != 0 {
		t.Errorf("iot at the end: trap %d, PC %d", trap, got.Cpu.PC)
	}
}

func TestHaltWaitAndReset(t *testing.T) {
	for _, m := range []api.Machine{begun(), inUse(256, 0), inUse(512, 3)} {
		m.Waiting = false
		m.Cpu.PSW &= 0x40FF
		want := kept(m)
		want.Cpu.PC += 2
		want.Halted = true
		if got, trap := execute(t, m, []int{0}); trap != api.TrNone || !same(got, want) {
			t.Errorf("halt: trap %d, differences: %s", trap, differences(got, want))
		}
		want.Halted, want.Waiting = false, true
		if got, trap := execute(t, m, []int{1}); trap != api.TrNone || !same(got, want) {
			t.Errorf("wait: trap %d, differences: %s", trap, differences(got, want))
		}
		want.Waiting = false
		want.Mmu = api.Mmu{}
		want.Clock = api.Clock{Period: m.Clock.Period, Left: m.Clock.Period}
		for i, l := range m.Lines {
			want.Lines[i] = api.Line{RxData: l.RxData, TxData: l.TxData, TxReady: true, Out: l.Out}
		}
		want.Disk = api.Disk{Drive: m.Disk.Drive, Ready: true, Words: m.Disk.Words, Addr: m.Disk.Addr, Start: m.Disk.Start}
		want.Tape = api.Tape{Records: m.Tape.Records, Pos: m.Tape.Pos, Ready: true, Count: m.Tape.Count, Addr: m.Tape.Addr}
		if got, trap := execute(t, m, []int{5}); trap != api.TrNone || !same(got, want) {
			t.Errorf("reset: trap %d, differences: %s", trap, differences(got, want))
		}
	}
}

// The chapter's examples.

func TestExamples(t *testing.T) {
	m := with(begun(), "r0=32767 r1=1")
	add := api.Inst{Op: api.OpAdd, Src: api.Operand{Reg: 1}, Dst: api.Operand{Reg: 0}}
	if x, trap := cpu.Execute(m, add, 1); trap != api.TrNone || !same(x, with(m, "r0=32768 ps=10 pc=66")) {
		t.Errorf("add r1, r0: trap %d, %+v", trap, x.Cpu)
	}
	m = with(blank(256, 0), "w0=0o012701 w2=5")
	mov := api.Inst{Op: api.OpMov, Src: api.Operand{Mode: 2, Reg: 7, Ext: 5}, Dst: api.Operand{Reg: 1}}
	i, n, x, trap := cpu.Fetch(m)
	if i != mov || n != 2 || trap != api.TrNone || !same(x, m) {
		t.Errorf("fetched %+v, %d words, trap %d", i, n, trap)
	}
	if x, trap = cpu.Execute(m, mov, 2); trap != api.TrNone || !same(x, with(m, "r1=5 pc=4")) {
		t.Errorf("mov #5, r1: trap %d, %+v", trap, x.Cpu)
	}
	m = with(begun(), "r0=101")
	if x, trap = cpu.Execute(m, api.Inst{Op: api.OpMov, Src: api.Operand{Mode: 1}, Dst: api.Operand{Reg: 1}}, 1); trap != api.TrBus || !same(x, m) {
		t.Errorf("mov (r0), r1: trap %d, %+v", trap, x.Cpu)
	}
	m = with(begun(), "r0=101 w100=0x8000")
	if x, trap = cpu.Execute(m, api.Inst{Op: api.OpMov, Byte: true, Src: api.Operand{Mode: 2}, Dst: api.Operand{Reg: 1}}, 1); trap != api.TrNone || !same(x, with(m, "r0=102 r1=0xFF80 ps=8 pc=66")) {
		t.Errorf("movb (r0)+, r1: trap %d, %+v", trap, x.Cpu)
	}
	m = begun(0o104403)
	i, n, x, trap = cpu.Fetch(m)
	if i != (api.Inst{Op: api.OpTrap, Num: 3}) || n != 1 || trap != api.TrNone || !same(x, m) {
		t.Errorf("fetched %+v, %d words, trap %d", i, n, trap)
	}
	if x, trap = cpu.Execute(m, i, n); trap != api.TrTrap || !same(x, with(m, "pc=66")) {
		t.Errorf("trap 3: trap %d, %+v", trap, x.Cpu)
	}
}
