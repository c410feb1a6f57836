package operand_test

import (
	"math"
	"testing"

	"emulator/api"
	"emulator/operand"
)

// wild has integers that are no modes and no registers.
var wild = []int{-1, -2, -3, -4, -5, -6, -7, -8, -9, -16, -64, -65535, -65536, 8, 9, 10, 11, 12, 13, 14, 15, 16, 23, 63, 64, 65535, 65536, 1<<31 - 1, 1 << 31, -1 << 31, 1<<32 + 2, 1 << 40, 1<<62 + 7, math.MaxInt - 1, math.MaxInt, math.MinInt, math.MinInt + 1, math.MinInt + 7}

// words has words that are not 0, and notWords integers that are no words.
var (
	words    = []int{1, 2, 5, 7, 8, 255, 256, 32767, 32768, 49152, 65534, 65535}
	notWords = []int{-1, -2, -5, -32768, -65535, -65536, 65536, 65537, 65536 + 5, 131072, 1 << 31, 1<<32 + 5, 1 << 40, math.MaxInt, math.MinInt}
)

// extended has an x for each mode (row) and register (column) of an operand with an extension word.
var extended = [8]string{"........", "........", ".......x", ".......x", "........", "........", "xxxxxxxx", "xxxxxxxx"}

// wordSteps and byteSteps have the steps by mode (row) and register (column).
var (
	wordSteps = [8][8]int{
		2: {2, 2, 2, 2, 2, 2, 2, 0},
		3: {2, 2, 2, 2, 2, 2, 2, 0},
		4: {-2, -2, -2, -2, -2, -2, -2, -2},
		5: {-2, -2, -2, -2, -2, -2, -2, -2},
	}
	byteSteps = [8][8]int{
		2: {1, 1, 1, 1, 1, 1, 2, 0},
		3: {2, 2, 2, 2, 2, 2, 2, 0},
		4: {-1, -1, -1, -1, -1, -1, -2, -2},
		5: {-2, -2, -2, -2, -2, -2, -2, -2},
	}
)

// modulo returns n modulo m, from 0 to m - 1, written with division so that it shares nothing with a mask.
func modulo(n, m int) int {
	return (n%m + m) % m
}

// numbers returns 0 to 7 and integers outside of that.
func numbers() []int {
	return append([]int{0, 1, 2, 3, 4, 5, 6, 7}, wild...)
}

// extensions returns words and integers that are no words.
func extensions() []int {
	return append(append([]int{0}, words...), notWords...)
}

// operands returns operands, valid ones and others.
func operands() []api.Operand {
	var all []api.Operand
	for _, mode := range numbers() {
		for _, reg := range numbers() {
			for _, ext := range extensions() {
				all = append(all, api.Operand{Mode: mode, Reg: reg, Ext: ext})
			}
		}
	}
	return all
}

// hasExtension tells by the table whether an operand has an extension word.
func hasExtension(o api.Operand) bool {
	return extended[modulo(o.Mode, 8)][modulo(o.Reg, 8)] == 'x'
}

// wantValid tells whether an operand is valid.
func wantValid(o api.Operand) bool {
	if o.Mode < 0 || o.Mode > 7 || o.Reg < 0 || o.Reg > 7 {
		return false
	}
	if hasExtension(o) {
		return o.Ext >= 0 && o.Ext < 65536
	}
	return o.Ext == 0
}

// P5.1 and P5.5

func TestValidAndWritableCases(t *testing.T) {
	for _, k := range []struct {
		o               api.Operand
		valid, writable bool
	}{
		{api.Operand{Mode: 1, Reg: 0, Ext: 5}, false, false}, {api.Operand{Mode: 2, Reg: 7, Ext: 7}, true, false}, {api.Operand{Mode: 3, Reg: 7, Ext: 7}, true, true}, {api.Operand{Mode: 5, Reg: 3}, true, true}, // examples
		{api.Operand{}, true, true}, {api.Operand{Reg: 7}, true, true}, {api.Operand{Mode: 1, Reg: 7}, true, true}, {api.Operand{Mode: 4, Reg: 7}, true, true}, {api.Operand{Mode: 5, Reg: 7}, true, true}, {api.Operand{Mode: 6, Reg: 7}, true, true}, {api.Operand{Mode: 7, Reg: 7}, true, true},
		{api.Operand{Mode: 2, Reg: 7}, true, false}, {api.Operand{Mode: 2, Reg: 7, Ext: 65535}, true, false}, {api.Operand{Mode: 2, Reg: 6}, true, true}, {api.Operand{Mode: 2}, true, true}, // only #X is not writable
		{api.Operand{Mode: 6, Reg: 2, Ext: 65535}, true, true}, {api.Operand{Mode: 7, Reg: 5, Ext: 1}, true, true}, {api.Operand{Mode: 6}, true, true}, {api.Operand{Mode: 3, Reg: 7}, true, true},
		{api.Operand{Mode: 6, Ext: 65536}, false, false}, {api.Operand{Mode: 6, Ext: -1}, false, false}, {api.Operand{Mode: 7, Reg: 1, Ext: 65536}, false, false}, {api.Operand{Mode: 7, Reg: 1, Ext: -1}, false, false}, {api.Operand{Mode: 2, Reg: 7, Ext: 65536}, false, false}, {api.Operand{Mode: 3, Reg: 7, Ext: 65536}, false, false}, {api.Operand{Mode: 3, Reg: 7, Ext: -1}, false, false}, {api.Operand{Mode: 6, Ext: math.MinInt}, false, false}, {api.Operand{Mode: 6, Ext: math.MaxInt}, false, false}, // an Ext that is no word
		{api.Operand{Ext: 1}, false, false}, {api.Operand{Reg: 7, Ext: 1}, false, false}, {api.Operand{Mode: 2, Reg: 6, Ext: 1}, false, false}, {api.Operand{Mode: 3, Ext: 2}, false, false}, {api.Operand{Mode: 4, Reg: 7, Ext: 1}, false, false}, {api.Operand{Mode: 5, Reg: 7, Ext: 1}, false, false}, {api.Operand{Mode: 1, Reg: 7, Ext: 65536}, false, false}, {api.Operand{Mode: 0, Ext: -1}, false, false}, // an Ext without an extension word
		{api.Operand{Mode: 8}, false, false}, {api.Operand{Mode: -1}, false, false}, {api.Operand{Reg: 8}, false, false}, {api.Operand{Reg: -1}, false, false}, {api.Operand{Mode: 14, Ext: 3}, false, false}, {api.Operand{Mode: 6, Reg: 15}, false, false}, {api.Operand{Mode: math.MinInt}, false, false}, {api.Operand{Reg: math.MaxInt}, false, false}, {api.Operand{Mode: 8, Reg: 8}, false, false}, // no mode or no register
	} {
		if got := operand.Valid(k.o); got != k.valid {
			t.Errorf("Valid(%v) = %v, want %v", k.o, got, k.valid)
		}
		if got := operand.Writable(k.o); got != k.writable {
			t.Errorf("Writable(%v) = %v, want %v", k.o, got, k.writable)
		}
	}
}

func TestValid(t *testing.T) {
	for _, o := range operands() {
		if got, want := operand.Valid(o), wantValid(o); got != want {
			t.Fatalf("Valid(%v) = %v, want %v", o, got, want)
		}
	}
}

func TestValidTakesEveryWord(t *testing.T) {
	for ext := -2; ext <= 65537; ext++ {
		for _, o := range []api.Operand{{Mode: 2, Reg: 7, Ext: ext}, {Mode: 3, Reg: 7, Ext: ext}, {Mode: 6, Reg: 0, Ext: ext}, {Mode: 7, Reg: 6, Ext: ext}} {
			if got, want := operand.Valid(o), ext >= 0 && ext <= 65535; got != want {
				t.Fatalf("Valid(%v) = %v, want %v", o, got, want)
			}
		}
	}
}

func TestWritable(t *testing.T) {
	for _, o := range operands() {
		want := wantValid(o) && (o.Mode != 2 || o.Reg != 7)
		if got := operand.Writable(o); got != want {
			t.Fatalf("Writable(%v) = %v, want %v", o, got, want)
		}
	}
}

// P5.2

func TestFieldCases(t *testing.T) {
	for _, k := range []struct {
		o    api.Operand
		want int
	}{
		{api.Operand{Mode: 5, Reg: 3}, 0o53}, // an example
		{api.Operand{}, 0}, {api.Operand{Reg: 7}, 0o07}, {api.Operand{Mode: 1}, 0o10}, {api.Operand{Mode: 2, Reg: 7, Ext: 7}, 0o27}, {api.Operand{Mode: 3, Reg: 7, Ext: 7}, 0o37}, {api.Operand{Mode: 7, Reg: 7, Ext: 65535}, 0o77}, {api.Operand{Mode: 4, Reg: 6}, 0o46},
		{api.Operand{Mode: 5, Reg: 3, Ext: 64}, 0o53}, {api.Operand{Ext: -1}, 0}, {api.Operand{Mode: 6, Reg: 1, Ext: math.MaxInt}, 0o61}, // Ext does not count
		{api.Operand{Mode: 8, Reg: 9}, 0o01}, {api.Operand{Mode: 13, Reg: 8}, 0o50}, {api.Operand{Mode: -1, Reg: -1}, 0o77}, {api.Operand{Mode: -8, Reg: -6}, 0o02}, {api.Operand{Mode: math.MaxInt, Reg: math.MinInt}, 0o70}, {api.Operand{Mode: math.MinInt, Reg: math.MaxInt}, 0o07}, // only three bits of each
	} {
		if got := operand.Field(k.o); got != k.want {
			t.Errorf("Field(%v) = %#o, want %#o", k.o, got, k.want)
		}
	}
}

func TestField(t *testing.T) {
	for _, o := range operands() {
		want := 8*modulo(o.Mode, 8) + modulo(o.Reg, 8)
		if got := operand.Field(o); got != want {
			t.Fatalf("Field(%v) = %#o, want %#o", o, got, want)
		}
	}
}

func TestFromCases(t *testing.T) {
	for _, k := range []struct {
		field int
		want  api.Operand
	}{
		{0o53, api.Operand{Mode: 5, Reg: 3}}, {0, api.Operand{}}, {0o07, api.Operand{Reg: 7}}, {0o10, api.Operand{Mode: 1}}, {0o27, api.Operand{Mode: 2, Reg: 7}}, {0o77, api.Operand{Mode: 7, Reg: 7}},
		{0o100, api.Operand{}}, {0o153, api.Operand{Mode: 5, Reg: 3}}, {0o012701, api.Operand{Mode: 0, Reg: 1}}, {65535, api.Operand{Mode: 7, Reg: 7}}, {65536, api.Operand{}}, // only six bits
		{-1, api.Operand{Mode: 7, Reg: 7}}, {-64, api.Operand{}}, {-63, api.Operand{Reg: 1}}, {-8, api.Operand{Mode: 7}}, {math.MaxInt, api.Operand{Mode: 7, Reg: 7}}, {math.MinInt, api.Operand{}}, {math.MinInt + 0o31, api.Operand{Mode: 3, Reg: 1}},
	} {
		if got := operand.From(k.field); got != k.want {
			t.Errorf("From(%#o) = %v, want %v", k.field, got, k.want)
		}
	}
}

func TestFrom(t *testing.T) {
	fields := append([]int{}, wild...)
	for n := -70000; n <= 140000; n++ {
		fields = append(fields, n)
	}
	for _, n := range fields {
		six := modulo(n, 64)
		want := api.Operand{Mode: six / 8, Reg: six % 8}
		if got := operand.From(n); got != want {
			t.Fatalf("From(%#o) = %v, want %v", n, got, want)
		}
	}
}

// P5.3

func TestExtendedAndDeferredCases(t *testing.T) {
	for _, k := range []struct {
		o                  api.Operand
		extended, deferred bool
	}{
		{api.Operand{Mode: 2, Reg: 7, Ext: 7}, true, false}, {api.Operand{Mode: 3, Reg: 7, Ext: 7}, true, true}, {api.Operand{Mode: 1, Reg: 0, Ext: 5}, false, false}, {api.Operand{Mode: 5, Reg: 3}, false, true}, // examples
		{api.Operand{}, false, false}, {api.Operand{Reg: 7}, false, false}, {api.Operand{Mode: 1, Reg: 7}, false, false}, {api.Operand{Mode: 2, Reg: 6}, false, false}, {api.Operand{Mode: 3, Reg: 6}, false, true}, {api.Operand{Mode: 4, Reg: 7}, false, false}, {api.Operand{Mode: 5, Reg: 7}, false, true}, {api.Operand{Mode: 6}, true, false}, {api.Operand{Mode: 7}, true, true}, {api.Operand{Mode: 6, Reg: 7}, true, false}, {api.Operand{Mode: 7, Reg: 7}, true, true},
		{api.Operand{Mode: 10, Reg: 15, Ext: -1}, true, false}, {api.Operand{Mode: -5, Reg: -1}, true, true}, {api.Operand{Mode: 11, Reg: -2}, false, true}, {api.Operand{Mode: 14, Reg: 8}, true, false}, {api.Operand{Mode: -1, Reg: 3}, true, true}, {api.Operand{Mode: -8}, false, false}, {api.Operand{Mode: math.MaxInt}, true, true}, {api.Operand{Mode: math.MinInt, Reg: 7}, false, false}, {api.Operand{Mode: 2, Reg: math.MaxInt}, true, false}, // only three bits of each
	} {
		if got := operand.Extended(k.o); got != k.extended {
			t.Errorf("Extended(%v) = %v, want %v", k.o, got, k.extended)
		}
		if got := operand.Deferred(k.o); got != k.deferred {
			t.Errorf("Deferred(%v) = %v, want %v", k.o, got, k.deferred)
		}
	}
}

func TestExtendedAndDeferred(t *testing.T) {
	for _, o := range operands() {
		if got, want := operand.Extended(o), hasExtension(o); got != want {
			t.Fatalf("Extended(%v) = %v, want %v", o, got, want)
		}
		mode := modulo(o.Mode, 8)
		if got, want := operand.Deferred(o), mode == 3 || mode == 5 || mode == 7; got != want {
			t.Fatalf("Deferred(%v) = %v, want %v", o, got, want)
		}
	}
}

// P5.4

func TestStepCases(t *testing.T) {
	for _, k := range []struct {
		o          api.Operand
		word, byte int
	}{
		{api.Operand{Mode: 5, Reg: 3}, -2, -2}, {api.Operand{Mode: 2, Reg: 7, Ext: 7}, 0, 0}, {api.Operand{Mode: 2, Reg: 6}, 2, 2}, {api.Operand{Mode: 2, Reg: 0}, 2, 1}, // examples
		{api.Operand{}, 0, 0}, {api.Operand{Reg: 7}, 0, 0}, {api.Operand{Mode: 1, Reg: 6}, 0, 0}, {api.Operand{Mode: 6, Reg: 3, Ext: 9}, 0, 0}, {api.Operand{Mode: 7, Reg: 3, Ext: 9}, 0, 0}, {api.Operand{Mode: 3, Reg: 7, Ext: 8}, 0, 0},
		{api.Operand{Mode: 2, Reg: 5}, 2, 1}, {api.Operand{Mode: 3, Reg: 5}, 2, 2}, {api.Operand{Mode: 4, Reg: 5}, -2, -1}, {api.Operand{Mode: 5, Reg: 5}, -2, -2}, {api.Operand{Mode: 3, Reg: 6}, 2, 2}, {api.Operand{Mode: 4, Reg: 6}, -2, -2}, {api.Operand{Mode: 5, Reg: 6}, -2, -2}, {api.Operand{Mode: 4, Reg: 7}, -2, -2}, {api.Operand{Mode: 5, Reg: 7}, -2, -2},
		{api.Operand{Mode: 10, Reg: 8}, 2, 1}, {api.Operand{Mode: 10, Reg: 14}, 2, 2}, {api.Operand{Mode: 10, Reg: 15}, 0, 0}, {api.Operand{Mode: -4, Reg: -3}, -2, -1}, {api.Operand{Mode: -4, Reg: -1}, -2, -2}, {api.Operand{Mode: -1}, 0, 0}, {api.Operand{Mode: math.MinInt + 2, Reg: math.MinInt + 1}, 2, 1}, {api.Operand{Mode: 2, Reg: math.MaxInt}, 0, 0}, // only three bits of each
		{api.Operand{Mode: 2, Reg: 1, Ext: 5}, 2, 1}, {api.Operand{Mode: 2, Reg: 7, Ext: -1}, 0, 0}, {api.Operand{Mode: 1, Ext: 65536}, 0, 0}, // Ext does not count
	} {
		if got := operand.Step(k.o, false); got != k.word {
			t.Errorf("Step(%v, false) = %d, want %d", k.o, got, k.word)
		}
		if got := operand.Step(k.o, true); got != k.byte {
			t.Errorf("Step(%v, true) = %d, want %d", k.o, got, k.byte)
		}
	}
}

func TestStep(t *testing.T) {
	for _, o := range operands() {
		mode, reg := modulo(o.Mode, 8), modulo(o.Reg, 8)
		if got, want := operand.Step(o, false), wordSteps[mode][reg]; got != want {
			t.Fatalf("Step(%v, false) = %d, want %d", o, got, want)
		}
		if got, want := operand.Step(o, true), byteSteps[mode][reg]; got != want {
			t.Fatalf("Step(%v, true) = %d, want %d", o, got, want)
		}
	}
}

// P5.6

func TestFromOfFieldIsTheOperandWithoutItsExtension(t *testing.T) {
	count := 0
	for _, o := range operands() {
		if !operand.Valid(o) {
			continue
		}
		count++
		want := api.Operand{Mode: o.Mode, Reg: o.Reg}
		if got := operand.From(operand.Field(o)); got != want {
			t.Fatalf("From(Field(%v)) = %v, want %v", o, got, want)
		}
	}
	if want := 46 + 18*(1+len(words)); count != want {
		t.Errorf("%d operands are valid, want %d", count, want)
	}
}

func TestFieldOfFromIsTheSixBits(t *testing.T) {
	for n := range 64 {
		o := operand.From(n)
		if !operand.Valid(o) {
			t.Errorf("From(%#o) = %v, which is not valid", n, o)
		}
		if got := operand.Field(o); got != n {
			t.Errorf("Field(From(%#o)) = %#o", n, got)
		}
	}
}

// P5.7

func TestExtendedOperandsChangeNoRegister(t *testing.T) {
	for _, o := range operands() {
		if !operand.Extended(o) {
			continue
		}
		if word, byte := operand.Step(o, false), operand.Step(o, true); word != 0 || byte != 0 {
			t.Fatalf("the steps of %v, which has an extension word, are %d and %d", o, word, byte)
		}
	}
}

func TestStackPointerChangesByWords(t *testing.T) {
	for _, o := range operands() {
		mode := modulo(o.Mode, 8)
		if modulo(o.Reg, 8) != 6 || mode < 2 || mode > 5 {
			continue
		}
		want := 2
		if mode >= 4 {
			want = -2
		}
		if word, byte := operand.Step(o, false), operand.Step(o, true); word != want || byte != want {
			t.Fatalf("the steps of %v are %d and %d, want %d", o, word, byte, want)
		}
	}
}
