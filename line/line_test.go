package line_test

import (
	"math"
	"slices"
	"strconv"
	"strings"
	"testing"

	"emulator/api"
	"emulator/line"
)

// farInts has integers far from bytes, registers and lines, many of which become one of them when they are cut to fewer bits.
var farInts = []int{math.MinInt, math.MinInt + 1, math.MinInt + 2, math.MinInt + 4, math.MinInt + 6, math.MinInt + 64, math.MinInt + 255, -1 << 62, -1<<62 + 2, -1<<62 + 64, -1 << 40, -1 << 32, -1<<32 + 1, -1<<32 + 2, -1<<32 + 6, -1<<32 + 64, -1 << 31, -1<<31 + 1, -65537, -65536, -65535, -65536 + 64, -32769, -32768, -257, -256, -255, -254, -250,
	65535, 65536, 65537, 65538, 65540, 65542, 65536 + 64, 131072, 1<<31 - 1, 1 << 31, 1<<31 + 2, 1<<32 - 1, 1 << 32, 1<<32 + 1, 1<<32 + 2, 1<<32 + 4, 1<<32 + 6, 1<<32 + 64, 1<<32 + 255, 1 << 40, 1<<40 + 64, 1 << 61, 1 << 62, 1<<62 + 2, 1<<62 + 64, math.MaxInt - 255, math.MaxInt - 64, math.MaxInt - 1, math.MaxInt}

var bools = []bool{false, true}

// theRegisters has the registers of a line.
var theRegisters = []int{0, 2, 4, 6}

// otherRegisters returns numbers that are no registers.
func otherRegisters() []int {
	all := slices.Clone(farInts)
	for n := -300; n <= 1100; n++ {
		if !slices.Contains(theRegisters, n) {
			all = append(all, n)
		}
	}
	return all
}

// text returns so many bytes of all values, no two of which that follow one another are equal.
func text(n int) string {
	b := make([]byte, n)
	for i := range b {
		b[i] = byte(37*i + 200)
	}
	return string(b)
}

// someOuts returns outputs: empty, short, almost full, and full.
func someOuts() []string {
	return []string{"", "A", "\x00", text(300), text(api.MaxOutput - 2), text(api.MaxOutput - 1), text(api.MaxOutput)}
}

// someBytes has pairs of received and sent bytes.
var someBytes = [][2]int{{0, 0}, {0, 255}, {255, 0}, {65, 66}, {127, 128}, {255, 255}}

// flags are the bools of a line that may be anything.
type flags struct {
	rxEnable, rxReady, overrun, txEnable bool
}

// allFlags returns the 16 flags.
func allFlags() []flags {
	var all []flags
	for n := range 16 {
		all = append(all, flags{n%2 != 0, n/2%2 != 0, n/4%2 != 0, n/8 != 0})
	}
	return all
}

// state returns a line whose transmitter is ready if there is nothing left to wait for.
func state(f flags, rx, tx, left int, out string) api.Line {
	return api.Line{RxEnable: f.rxEnable, RxReady: f.rxReady, Overrun: f.overrun, RxData: rx, TxEnable: f.txEnable, TxReady: left == 0, TxData: tx, TxLeft: left, Out: out}
}

// validLines returns valid lines, with all flags and all ticks that may be left.
func validLines() []api.Line {
	var all []api.Line
	for _, f := range allFlags() {
		for left := range 5 {
			for _, b := range someBytes {
				for _, out := range someOuts() {
					all = append(all, state(f, b[0], b[1], left, out))
				}
			}
		}
	}
	return all
}

// wrongLines returns lines that are not valid.
func wrongLines() []api.Line {
	tooLong := text(api.MaxOutput + 1)
	numbers := append([]int{-2, -1, 5, 6, 256, 257}, farInts...)
	var all []api.Line
	for _, f := range allFlags() {
		for _, n := range numbers {
			all = append(all, state(f, n, 66, 0, ""), state(f, 65, n, 4, ""), state(f, 65, 66, n, "x"))
			both := state(f, n, n, n, "x")
			ready := both
			ready.TxReady = true
			all = append(all, both, ready)
		}
		for left := range 5 {
			fits := state(f, 65, 66, left, "x")
			fits.TxReady = !fits.TxReady
			all = append(all, fits, state(f, 65, 66, left, tooLong), state(f, 65, 66, left, tooLong+tooLong), state(f, 256, -1, left, tooLong))
		}
	}
	return slices.DeleteFunc(all, line.Right)
}

// remainder returns n modulo d, from 0 on.
func remainder(n, d int) int {
	n %= d
	if n < 0 {
		n += d
	}
	return n
}

// bit6 reports whether bit 6 of a number is set, by its remainder.
func bit6(v int) bool {
	return remainder(v, 128) >= 64
}

func TestHelpers(t *testing.T) {
	for _, k := range []struct{ n, low int }{{0, 0}, {1, 1}, {255, 255}, {256, 0}, {257, 1}, {-1, 255}, {-256, 0}, {-257, 255}, {math.MinInt, 0}, {math.MinInt + 65, 65}, {math.MaxInt, 255}} {
		if got := remainder(k.n, 256); got != k.low {
			t.Errorf("%d modulo 256 is %d", k.n, got)
		}
	}
	for _, k := range []struct {
		v   int
		set bool
	}{{0, false}, {63, false}, {64, true}, {127, true}, {128, false}, {192, true}, {-1, true}, {-64, true}, {-65, false}, {-128, false}, {-129, true}, {math.MinInt, false}, {math.MaxInt, true}} {
		if got := bit6(k.v); got != k.set {
			t.Errorf("bit 6 of %d is %v", k.v, got)
		}
	}
	if wrong := wrongLines(); len(wrong) < 1000 {
		t.Errorf("only %d wrong lines", len(wrong))
	}
}

// short returns a line whose output can be printed: its end, quoted.
func short(l api.Line) api.Line {
	l.Out = strconv.Quote(l.Out[max(0, len(l.Out)-20):])
	return l
}

// P14.1: New, Right.

func TestNew(t *testing.T) {
	l := line.New()
	if l.RxEnable || l.RxReady || l.Overrun || l.RxData != 0 {
		t.Errorf("the receiver of a new line: %+v", l)
	}
	if l.TxEnable || !l.TxReady || l.TxData != 0 || l.TxLeft != 0 || l.Out != "" {
		t.Errorf("the transmitter of a new line: %+v", l)
	}
	if l != (api.Line{TxReady: true}) || !line.Right(l) || line.New() != l {
		t.Errorf("a new line: %+v", l)
	}
}

func TestRightOfValidLines(t *testing.T) {
	for _, l := range validLines() {
		if !line.Right(l) {
			t.Fatalf("%+v is valid", short(l))
		}
	}
}

func TestRightOfBytes(t *testing.T) {
	numbers := slices.Clone(farInts)
	for n := -300; n <= 600; n++ {
		numbers = append(numbers, n)
	}
	for _, n := range numbers {
		isByte := n >= 0 && n <= 255
		for _, f := range allFlags() {
			for left := range 5 {
				if got := line.Right(state(f, n, 66, left, "x")); got != isByte {
					t.Fatalf("with RxData %d Right is %v", n, got)
				}
				if got := line.Right(state(f, 65, n, left, "x")); got != isByte {
					t.Fatalf("with TxData %d Right is %v", n, got)
				}
			}
		}
	}
}

func TestRightOfTheBounds(t *testing.T) {
	for _, k := range []struct {
		l    api.Line
		want bool
	}{
		{api.Line{}, false}, // nothing is left to wait for
		{api.Line{TxReady: true}, true},
		{api.Line{TxReady: true, RxData: -1}, false},
		{api.Line{TxReady: true, RxData: 0}, true},
		{api.Line{TxReady: true, RxData: 255}, true},
		{api.Line{TxReady: true, RxData: 256}, false},
		{api.Line{TxReady: true, TxData: -1}, false},
		{api.Line{TxReady: true, TxData: 0}, true},
		{api.Line{TxReady: true, TxData: 255}, true},
		{api.Line{TxReady: true, TxData: 256}, false},
		{api.Line{TxLeft: -1}, false},
		{api.Line{TxLeft: 0}, false},
		{api.Line{TxLeft: 1}, true},
		{api.Line{TxLeft: 2}, true},
		{api.Line{TxLeft: 3}, true},
		{api.Line{TxLeft: 4}, true},
		{api.Line{TxLeft: 5}, false},
		{api.Line{TxReady: true, TxLeft: -1}, false},
		{api.Line{TxReady: true, TxLeft: 1}, false},
		{api.Line{TxReady: true, TxLeft: 2}, false},
		{api.Line{TxReady: true, TxLeft: 3}, false},
		{api.Line{TxReady: true, TxLeft: 4}, false},
		{api.Line{TxReady: true, TxLeft: 5}, false},
		{api.Line{TxReady: true, Overrun: true}, true}, // an overrun without a byte
		{api.Line{TxReady: true, RxEnable: true, TxEnable: true, RxReady: true}, true},
	} {
		if got := line.Right(k.l); got != k.want {
			t.Errorf("Right(%+v) = %v", k.l, got)
		}
	}
}

func TestRightOfTicksThatAreLeft(t *testing.T) {
	numbers := slices.Clone(farInts)
	for n := -20; n <= 20; n++ {
		numbers = append(numbers, n)
	}
	for _, left := range numbers {
		for _, f := range allFlags() {
			fits := state(f, 65, 66, left, "x")
			if got, want := line.Right(fits), left >= 0 && left <= 4; got != want {
				t.Fatalf("Right(%+v) = %v", fits, got)
			}
			fits.TxReady = !fits.TxReady
			if line.Right(fits) {
				t.Fatalf("Right(%+v) is true", fits)
			}
		}
	}
}

func TestRightOfOutput(t *testing.T) {
	for _, k := range []struct {
		out  string
		want bool
	}{
		{"", true}, {"x", true}, {text(4094), true}, {text(4095), true}, {text(4096), true}, {text(4097), false}, {text(4098), false}, {text(8192), false}, {text(1 << 16), false},
		{strings.Repeat("\u00e9", 2048), true}, {strings.Repeat("\u00e9", 2049), false}, {strings.Repeat("\u00e9", 4096), false}, // bytes, not runes
		{strings.Repeat("\x00", 4096), true}, {strings.Repeat("\x00", 4097), false}, {strings.Repeat("\xff", 4096), true}, {strings.Repeat("\xff", 4097), false},
	} {
		for _, f := range allFlags() {
			for left := range 5 {
				if got := line.Right(state(f, 65, 66, left, k.out)); got != k.want {
					t.Fatalf("with %d bytes of output and %d ticks Right is %v", len(k.out), left, got)
				}
			}
		}
	}
}

// P14.2: Type.

func TestTypeCases(t *testing.T) {
	for _, k := range []struct {
		ready, overrun bool // before
		b, data        int
		lost           bool // Overrun afterwards
	}{
		{false, false, 65, 65, false}, {true, false, 65, 65, true}, {false, true, 65, 65, true}, {true, true, 65, 65, true},
		{false, false, 0, 0, false}, {false, false, 255, 255, false}, {false, false, 256, 0, false}, {false, false, 257, 1, false}, {true, false, 0x142, 66, true},
		{false, false, -1, 255, false}, {true, false, -1, 255, true}, {false, false, -255, 1, false}, {false, false, -256, 0, false}, {false, false, -257, 255, false},
		{false, false, 65535, 255, false}, {false, false, 65536, 0, false}, {false, false, 1<<32 + 7, 7, false}, {true, false, 1 << 62, 0, true},
		{false, false, math.MaxInt, 255, false}, {true, false, math.MinInt, 0, true}, {false, false, math.MinInt + 65, 65, false},
	} {
		before := state(flags{rxReady: k.ready, overrun: k.overrun}, 200, 9, 3, "x")
		want := state(flags{rxReady: true, overrun: k.lost}, k.data, 9, 3, "x")
		if got := line.Type(before, k.b); got != want {
			t.Errorf("Type(%+v, %d) = %+v, want %+v", before, k.b, got, want)
		}
	}
}

func TestTypeOfManyNumbers(t *testing.T) {
	numbers := slices.Clone(farInts)
	for n := -1000; n <= 1000; n++ {
		numbers = append(numbers, n)
	}
	for _, b := range numbers {
		for _, f := range allFlags() {
			before := state(f, 17, 18, 2, "x")
			after := flags{f.rxEnable, true, f.overrun || f.rxReady, f.txEnable}
			if got, want := line.Type(before, b), state(after, remainder(b, 256), 18, 2, "x"); got != want {
				t.Fatalf("Type(%+v, %d) = %+v, want %+v", before, b, got, want)
			}
		}
	}
}

func TestTypeToManyLines(t *testing.T) {
	for _, l := range validLines() {
		for _, b := range []int{0, 65, 255, 256, -1} {
			want := l
			want.RxData, want.RxReady = remainder(b, 256), true
			if l.RxReady {
				want.Overrun = true
			}
			if got := line.Type(l, b); got != want || !line.Right(got) {
				t.Fatalf("Type(%+v, %d) = %+v", short(l), b, short(got))
			}
		}
	}
}

// P14.3: Read.

func TestReadOfTheReceiverStatus(t *testing.T) {
	for _, k := range []struct {
		enable, ready bool
		want          int
	}{{false, false, 0}, {true, false, 64}, {false, true, 128}, {true, true, 192}} {
		for _, l := range validLines() {
			l.RxEnable, l.RxReady = k.enable, k.ready
			if got, v := line.Read(l, 0); v != k.want || got != l {
				t.Fatalf("Read(%+v, 0) = %+v, %d, want %d", short(l), short(got), v, k.want)
			}
		}
	}
}

func TestReadOfTheReceiverData(t *testing.T) {
	for data := range 256 {
		for _, f := range allFlags() {
			for left := range 5 {
				l := state(f, data, 255-data, left, "x")
				want := data
				if f.overrun {
					want += 32768
				}
				after := state(flags{rxEnable: f.rxEnable, txEnable: f.txEnable}, data, 255-data, left, "x")
				if got, v := line.Read(l, 2); v != want || got != after {
					t.Fatalf("Read(%+v, 2) = %+v, %d, want %d", l, got, v, want)
				}
			}
		}
	}
}

func TestReadOfTheTransmitterStatus(t *testing.T) {
	for _, k := range []struct {
		enable bool
		left   int
		want   int
	}{
		{false, 0, 128}, {false, 1, 0}, {false, 2, 0}, {false, 3, 0}, {false, 4, 0},
		{true, 0, 192}, {true, 1, 64}, {true, 2, 64}, {true, 3, 64}, {true, 4, 64},
	} {
		for _, l := range validLines() {
			l.TxEnable, l.TxReady, l.TxLeft = k.enable, k.left == 0, k.left
			if got, v := line.Read(l, 4); v != k.want || got != l {
				t.Fatalf("Read(%+v, 4) = %+v, %d, want %d", short(l), short(got), v, k.want)
			}
		}
	}
}

func TestReadOfManyLines(t *testing.T) {
	for _, l := range validLines() {
		for _, reg := range []int{0, 2, 4, 6} {
			want := l
			if reg == 2 {
				want.RxReady, want.Overrun = false, false
			}
			if got, _ := line.Read(l, reg); got != want || !line.Right(got) {
				t.Fatalf("Read(%+v, %d) leaves %+v", short(l), reg, short(got))
			}
		}
	}
}

func TestReadOfAllOthers(t *testing.T) {
	registers := append(otherRegisters(), 6)
	for _, f := range allFlags() {
		for left := range 5 {
			l := state(f, 65, 66, left, text(api.MaxOutput))
			for _, reg := range registers {
				if got, v := line.Read(l, reg); v != 0 || got != l {
					t.Fatalf("Read(%+v, %d) = %+v, %d", short(l), reg, short(got), v)
				}
			}
		}
	}
}

// P14.4: Write.

// writtenValues has values of words, and others.
func writtenValues() []int {
	all := append(slices.Clone(farInts), 32767, 32768, 65535-64, 65536-64)
	for v := -600; v <= 600; v++ {
		all = append(all, v)
	}
	return all
}

func TestWriteCases(t *testing.T) {
	none, both := flags{}, flags{rxEnable: true, txEnable: true}
	rx, tx := flags{rxEnable: true}, flags{txEnable: true}
	for _, k := range []struct {
		before flags
		reg, v int
		after  flags
	}{
		{none, 0, 64, rx}, {none, 0, 0, none}, {none, 0, 63, none}, {none, 0, 128, none}, {none, 0, 192, rx}, {none, 0, 0xFFFF, rx}, {none, 0, 0xFFBF, none},
		{both, 0, 64, both}, {both, 0, 0, tx}, {both, 0, 63, tx}, {both, 0, 128, tx}, {both, 0, 192, both}, {both, 0, 0xFFFF, both}, {both, 0, 0xFFBF, tx},
		{none, 4, 64, tx}, {none, 4, 0, none}, {none, 4, 63, none}, {none, 4, 128, none}, {none, 4, 192, tx}, {none, 4, 0xFFFF, tx}, {none, 4, 0xFFBF, none},
		{both, 4, 64, both}, {both, 4, 0, rx}, {both, 4, 63, rx}, {both, 4, 128, rx}, {both, 4, 192, both}, {both, 4, 0xFFFF, both}, {both, 4, 0xFFBF, rx},
		{none, 0, -1, rx}, {both, 0, -65, tx}, {both, 0, -128, tx}, {none, 4, -64, tx}, {both, 4, -65, rx}, {both, 4, -128, rx}, {none, 4, -129, tx}, // negative values
		{none, 0, math.MaxInt, rx}, {both, 0, math.MaxInt - 64, tx}, {both, 4, math.MinInt, rx}, {none, 4, math.MinInt + 64, tx}, {both, 0, 1 << 40, tx}, {none, 0, 1<<40 + 64, rx}, {both, 0, 65536, tx},
		{none, 2, 64, none}, {both, 2, 0, both}, {none, 2, -1, none}, // the data of the receiver cannot be written
		{none, 1, 64, none}, {both, 1, 0, both}, {none, 3, 64, none}, {both, 5, 0, both}, {none, 7, 64, none}, {both, 8, 0, both}, {both, -2, 0, both}, {none, -4, 64, none},
	} {
		for left := range 5 {
			for _, ready := range bools {
				before, want := k.before, k.after
				before.rxReady, before.overrun, want.rxReady, want.overrun = ready, !ready, ready, !ready
				l := state(before, 1, 2, left, "x")
				if got := line.Write(l, k.reg, k.v); got != state(want, 1, 2, left, "x") {
					t.Errorf("Write(%+v, %d, %#x) = %+v", l, k.reg, k.v, got)
				}
			}
		}
	}
}

func TestWriteOfTheStatus(t *testing.T) {
	for _, f := range allFlags() {
		for left := range 5 {
			l := state(f, 65, 66, left, "x")
			for _, v := range writtenValues() {
				rx, tx := f, f
				rx.rxEnable, tx.txEnable = bit6(v), bit6(v)
				if got := line.Write(l, 0, v); got != state(rx, 65, 66, left, "x") {
					t.Fatalf("Write(%+v, 0, %d) = %+v", l, v, got)
				}
				if got := line.Write(l, 4, v); got != state(tx, 65, 66, left, "x") {
					t.Fatalf("Write(%+v, 4, %d) = %+v", l, v, got)
				}
			}
		}
	}
}

func TestWriteOfTheTransmitterData(t *testing.T) {
	for _, k := range []struct{ v, data int }{
		{0, 0}, {65, 65}, {255, 255}, {256, 0}, {0x141, 65}, {0xFF80, 128}, {65535, 255}, {65536, 0}, {-1, 255}, {-255, 1}, {-256, 0}, {1 << 32, 0}, {1<<40 + 9, 9}, {math.MaxInt, 255}, {math.MinInt, 0}, {math.MinInt + 7, 7},
	} {
		ready := state(flags{}, 1, 2, 0, "x")
		if got, want := line.Write(ready, 6, k.v), state(flags{}, 1, k.data, 4, "x"); got != want {
			t.Errorf("Write(%+v, 6, %d) = %+v, want %+v", ready, k.v, got, want)
		}
		for left := 1; left <= 4; left++ {
			busy := state(flags{}, 1, 2, left, "x")
			if got := line.Write(busy, 6, k.v); got != busy {
				t.Errorf("Write(%+v, 6, %d) = %+v", busy, k.v, got)
			}
		}
	}
	for _, f := range allFlags() {
		for left := range 5 {
			l := state(f, 65, 66, left, "x")
			for _, v := range writtenValues() {
				want := l
				if left == 0 {
					want = state(f, 65, remainder(v, 256), 4, "x")
				}
				if got := line.Write(l, 6, v); got != want {
					t.Fatalf("Write(%+v, 6, %d) = %+v, want %+v", l, v, got, want)
				}
			}
		}
	}
}

func TestWriteToManyLines(t *testing.T) {
	for _, l := range validLines() {
		for _, v := range []int{0, 64, 191, -1} {
			rx, tx, data := l, l, l
			rx.RxEnable, tx.TxEnable = bit6(v), bit6(v)
			if l.TxReady {
				data.TxReady, data.TxLeft, data.TxData = false, 4, remainder(v, 256)
			}
			for reg, want := range map[int]api.Line{0: rx, 2: l, 4: tx, 6: data} {
				if got := line.Write(l, reg, v); got != want || !line.Right(got) {
					t.Fatalf("Write(%+v, %d, %d) = %+v", short(l), reg, v, short(got))
				}
			}
		}
	}
}

func TestWriteOfAllOthers(t *testing.T) {
	registers := append(otherRegisters(), 2)
	for _, f := range allFlags() {
		for left := range 5 {
			l := state(f, 65, 66, left, text(api.MaxOutput))
			for _, reg := range registers {
				for _, v := range []int{0, 64, 191, 0xFFFF, -1} {
					if got := line.Write(l, reg, v); got != l {
						t.Fatalf("Write(%+v, %d, %d) = %+v", short(l), reg, v, short(got))
					}
				}
			}
		}
	}
}

// P14.5: Tick.

func TestTickCases(t *testing.T) {
	full := text(api.MaxOutput)
	almost := text(api.MaxOutput - 1)
	for _, k := range []struct {
		left int // before
		out  string
		want api.Line
	}{
		{0, "", api.Line{TxReady: true, TxData: 66}},
		{1, "", api.Line{TxReady: true, TxData: 66, Out: "B"}},
		{2, "", api.Line{TxLeft: 1, TxData: 66}},
		{3, "", api.Line{TxLeft: 2, TxData: 66}},
		{4, "", api.Line{TxLeft: 3, TxData: 66}},
		{0, "x", api.Line{TxReady: true, TxData: 66, Out: "x"}},
		{1, "x", api.Line{TxReady: true, TxData: 66, Out: "xB"}},
		{1, "xB", api.Line{TxReady: true, TxData: 66, Out: "xBB"}},
		{2, "x", api.Line{TxLeft: 1, TxData: 66, Out: "x"}},
		{0, almost, api.Line{TxReady: true, TxData: 66, Out: almost}},
		{1, almost[1:], api.Line{TxReady: true, TxData: 66, Out: almost[1:] + "B"}},
		{1, almost, api.Line{TxReady: true, TxData: 66, Out: almost + "B"}},
		{4, almost, api.Line{TxLeft: 3, TxData: 66, Out: almost}},
		{0, full, api.Line{TxReady: true, TxData: 66, Out: full}},
		{1, full, api.Line{TxReady: true, TxData: 66, Out: full[1:] + "B"}},
		{2, full, api.Line{TxLeft: 1, TxData: 66, Out: full}},
	} {
		before := state(flags{}, 0, 66, k.left, k.out)
		if got := line.Tick(before); got != k.want {
			t.Errorf("Tick(%+v) = %+v, want %+v", short(before), short(got), short(k.want))
		}
	}
}

func TestTickOfManyLines(t *testing.T) {
	for _, l := range validLines() {
		want := l
		switch l.TxLeft {
		case 4, 3, 2:
			want.TxLeft = l.TxLeft - 1
		case 1:
			want.TxLeft, want.TxReady = 0, true
			want.Out = l.Out + string([]byte{byte(l.TxData)})
			if len(l.Out) == 4096 {
				want.Out = want.Out[1:]
			}
		}
		if got := line.Tick(l); got != want || !line.Right(got) {
			t.Fatalf("Tick(%+v) = %+v, want %+v", short(l), short(got), short(want))
		}
	}
}

func TestTickSendsEachByte(t *testing.T) {
	for b := range 256 {
		want := append([]byte("x"), byte(b))
		if got := line.Tick(state(flags{}, 0, b, 1, "x")); got.Out != string(want) {
			t.Errorf("the byte %d is sent as %q", b, got.Out)
		}
		full := line.Tick(state(flags{}, 0, b, 1, text(api.MaxOutput)))
		if len(full.Out) != 4096 || full.Out[4095] != byte(b) || full.Out[:4095] != text(4096)[1:] {
			t.Errorf("the byte %d is sent behind a full output as %q", b, short(full).Out)
		}
	}
}

func TestTheLastBytesAreKept(t *testing.T) {
	sent := text(api.MaxOutput + 1000)
	l := line.New()
	for i := range len(sent) {
		l = line.Write(l, 6, int(sent[i]))
		for range 4 {
			l = line.Tick(l)
		}
		if want := sent[max(0, i+1-4096) : i+1]; l.Out != want || !line.Right(l) {
			t.Fatalf("after %d bytes: %+v", i+1, short(l))
		}
	}
}

// P14.6: Requests, Accept.

// requests returns requests with priority 4.
func requests(vectors ...int) []api.Request {
	var all []api.Request
	for _, v := range vectors {
		all = append(all, api.Request{Priority: 4, Vector: v})
	}
	return all
}

func TestRequestsOfAllStates(t *testing.T) {
	rx := requests(128, 136, 144, 152)
	tx := requests(132, 140, 148, 156)
	for _, l := range validLines() {
		for n := range 4 {
			var want []api.Request
			if l.RxEnable && l.RxReady {
				want = append(want, rx[n])
			}
			if l.TxEnable && l.TxReady {
				want = append(want, tx[n])
			}
			if got := line.Requests(l, n); !slices.Equal(got, want) {
				t.Fatalf("Requests(%+v, %d) = %v, want %v", short(l), n, got, want)
			}
		}
	}
}

func TestRequestsCases(t *testing.T) {
	both := flags{rxEnable: true, rxReady: true, txEnable: true}
	for _, k := range []struct {
		f       flags
		left, n int
		want    []api.Request
	}{
		{both, 0, 0, requests(128, 132)}, {both, 0, 1, requests(136, 140)}, {both, 0, 2, requests(144, 148)}, {both, 0, 3, requests(152, 156)},
		{both, 4, 0, requests(128)}, {both, 1, 3, requests(152)},
		{flags{txEnable: true}, 0, 0, requests(132)}, {flags{txEnable: true}, 0, 3, requests(156)}, {flags{txEnable: true}, 1, 0, nil},
		{flags{rxEnable: true, rxReady: true}, 0, 2, requests(144)},
		{flags{rxEnable: true}, 0, 0, nil}, {flags{rxReady: true}, 0, 0, nil}, {flags{rxEnable: true, overrun: true}, 0, 0, nil}, {flags{rxReady: true, txEnable: true}, 2, 0, nil}, {flags{rxReady: true, txEnable: true}, 0, 1, requests(140)},
		{flags{}, 0, 0, nil}, {flags{}, 4, 3, nil},
		{both, 0, -1, nil}, {both, 0, 4, nil}, {both, 0, 5, nil}, {both, 0, 8, nil}, {both, 0, math.MaxInt, nil}, {both, 0, math.MinInt, nil}, {both, 0, 1 << 32, nil}, {both, 0, 1<<61 + 1, nil},
	} {
		l := state(k.f, 65, 66, k.left, "x")
		if got := line.Requests(l, k.n); !slices.Equal(got, k.want) {
			t.Errorf("Requests(%+v, %d) = %v, want %v", l, k.n, got, k.want)
		}
	}
}

func TestRequestsOfOtherLines(t *testing.T) {
	numbers := slices.Clone(farInts)
	for n := -300; n <= 300; n++ {
		if n < 0 || n > 3 {
			numbers = append(numbers, n)
		}
	}
	for _, f := range allFlags() {
		for left := range 5 {
			for _, n := range numbers {
				if got := line.Requests(state(f, 65, 66, left, "x"), n); len(got) != 0 {
					t.Fatalf("line %d requests %v", n, got)
				}
			}
		}
	}
}

// overwrite changes all elements of a list, and the memory behind its end.
func overwrite(l []api.Request) {
	l = l[:cap(l)]
	for i := range l {
		l[i] = api.Request{Priority: -1, Vector: -1}
	}
}

func TestRequestsReturnsNewMemory(t *testing.T) {
	for _, f := range allFlags() {
		for left := range 5 {
			l := state(f, 65, 66, left, "x")
			first, second := line.Requests(l, 1), line.Requests(l, 1)
			want := slices.Clone(first)
			overwrite(first)
			if third := line.Requests(l, 1); !slices.Equal(second, want) || !slices.Equal(third, want) {
				t.Errorf("a changed result changes others: %v, %v", second, third)
			}
			overwrite(append(second, api.Request{Priority: 6, Vector: 64}))
			if got := line.Requests(l, 1); !slices.Equal(got, want) {
				t.Errorf("a longer result changes others: %v", got)
			}
		}
	}
}

func TestAcceptChangesNothing(t *testing.T) {
	for _, l := range validLines() {
		for _, n := range []int{-1, 0, 1, 2, 3, 4, math.MinInt, math.MaxInt} {
			for _, vector := range []int{-128, 0, 4, 64, 128, 132, 136, 140, 144, 148, 152, 156, 160, 164, math.MinInt, math.MaxInt} {
				if got := line.Accept(l, n, vector); got != l {
					t.Fatalf("Accept(%+v, %d, %d) = %+v", short(l), n, vector, short(got))
				}
			}
		}
	}
	l := state(flags{true, true, true, true}, 65, 66, 0, "x")
	for _, n := range append([]int{0, 1, 2, 3}, farInts...) {
		for vector := -300; vector <= 300; vector++ {
			if got := line.Accept(l, n, vector); got != l {
				t.Fatalf("Accept(%+v, %d, %d) = %+v", l, n, vector, got)
			}
		}
	}
}

func TestAcceptedRequestsStay(t *testing.T) {
	l := state(flags{rxEnable: true, rxReady: true, txEnable: true}, 65, 66, 0, "")
	want := requests(136, 140)
	for _, q := range want {
		l = line.Accept(l, 1, q.Vector)
		if got := line.Requests(l, 1); !slices.Equal(got, want) {
			t.Errorf("after %v was accepted: %v", q, got)
		}
	}
	// They end when the data is read and a byte is written.
	if l, _ = line.Read(l, 2); !slices.Equal(line.Requests(l, 1), want[1:]) {
		t.Errorf("after the data was read: %v", line.Requests(l, 1))
	}
	if l = line.Write(l, 6, 7); len(line.Requests(l, 1)) != 0 {
		t.Errorf("after a byte was written: %v", line.Requests(l, 1))
	}
}

// P14.7: Reset.

func TestResetCases(t *testing.T) {
	all := flags{true, true, true, true}
	for _, k := range []struct{ before, after api.Line }{
		{line.New(), line.New()},
		{state(all, 65, 66, 0, "x"), state(flags{}, 65, 66, 0, "x")},
		{state(all, 255, 128, 4, ""), state(flags{}, 255, 128, 0, "")},
		{state(flags{}, 1, 2, 1, "xy"), state(flags{}, 1, 2, 0, "xy")}, // the byte 2 is not sent
		{state(flags{}, 1, 2, 3, "xy"), state(flags{}, 1, 2, 0, "xy")},
		{state(flags{rxEnable: true}, 0, 0, 0, ""), line.New()},
		{state(flags{rxReady: true}, 0, 0, 0, ""), line.New()},
		{state(flags{overrun: true}, 0, 0, 0, ""), line.New()},
		{state(flags{txEnable: true}, 0, 0, 0, ""), line.New()},
		{state(all, 65, 66, 1, text(api.MaxOutput)), state(flags{}, 65, 66, 0, text(api.MaxOutput))},
	} {
		if got := line.Reset(k.before); got != k.after {
			t.Errorf("Reset(%+v) = %+v, want %+v", short(k.before), short(got), short(k.after))
		}
	}
}

func TestResetOfManyLines(t *testing.T) {
	for _, l := range validLines() {
		want := api.Line{RxData: l.RxData, TxReady: true, TxData: l.TxData, Out: l.Out}
		got := line.Reset(l)
		if got != want || !line.Right(got) || line.Reset(got) != got {
			t.Fatalf("Reset(%+v) = %+v, want %+v", short(l), short(got), short(want))
		}
		if line.Tick(got) != got || len(line.Requests(got, 0)) != 0 {
			t.Fatalf("after a reset: %+v, %v", short(line.Tick(got)), line.Requests(got, 0))
		}
	}
}

// All calls.

// results returns what the calls that return a line return.
func results(l api.Line) []api.Line {
	all := []api.Line{line.Type(l, 65), line.Type(l, -1), line.Tick(l), line.Accept(l, 0, 128), line.Reset(l)}
	for reg := -1; reg <= 8; reg++ {
		read, _ := line.Read(l, reg)
		all = append(all, read, line.Write(l, reg, 64), line.Write(l, reg, 0))
	}
	return all
}

// values returns the contents of the registers.
func values(l api.Line) []int {
	var all []int
	for reg := -1; reg <= 8; reg++ {
		_, v := line.Read(l, reg)
		all = append(all, v)
	}
	return all
}

func TestLinesStayAsTheyAre(t *testing.T) {
	for _, l := range append(validLines(), wrongLines()...) {
		before, out := l, strings.Clone(l.Out)
		first, read, right := results(l), values(l), line.Right(l)
		list := line.Requests(l, 2)
		requested := slices.Clone(list)
		overwrite(list)
		if l != before || l.Out != out {
			t.Fatalf("%+v has become %+v", short(before), short(l))
		}
		if !slices.Equal(results(l), first) || !slices.Equal(values(l), read) || line.Right(l) != right || !slices.Equal(line.Requests(l, 2), requested) {
			t.Fatalf("the calls of %+v differ the second time", short(l))
		}
	}
}

func TestWrongLinesDoNotPanic(t *testing.T) {
	numbers := append([]int{-1, 0, 1, 2, 3, 4, 5, 6, 7, 8, 64, 128, 132}, farInts...)
	for _, l := range wrongLines() {
		line.Tick(l)
		line.Reset(l)
		for _, n := range numbers {
			line.Type(l, n)
			line.Read(l, n)
			line.Requests(l, n)
			line.Accept(l, n, n)
			for _, v := range []int{0, 64, -1, math.MinInt, math.MaxInt} {
				line.Write(l, n, v)
			}
		}
	}
}

func TestRequestsOfWrongLines(t *testing.T) {
	// Requests accepts any line: it looks at the four flags alone.
	for _, k := range []struct {
		l    api.Line
		want []api.Request
	}{
		{api.Line{}, nil},
		{api.Line{TxEnable: true}, nil},
		{api.Line{TxEnable: true, TxReady: true, TxLeft: 3}, requests(140)},
		{api.Line{RxEnable: true, RxReady: true, RxData: -1, TxLeft: 9}, requests(136)},
		{api.Line{RxEnable: true, RxReady: true, TxEnable: true, TxReady: true, TxData: 256, Out: text(5000)}, requests(136, 140)},
	} {
		if line.Right(k.l) {
			t.Errorf("%+v is valid", short(k.l))
		}
		if got := line.Requests(k.l, 1); !slices.Equal(got, k.want) {
			t.Errorf("Requests(%+v, 1) = %v, want %v", short(k.l), got, k.want)
		}
		if got := line.Requests(k.l, 4); len(got) != 0 {
			t.Errorf("Requests(%+v, 4) = %v", short(k.l), got)
		}
	}
}

// Long runs: the consequences P14.8 to P14.10.

// numbers is a sequence of numbers that look disordered, but are the same in every run.
type numbers uint64

// next returns a number from 0 to n - 1.
func (s *numbers) next(n int) int {
	*s = *s*6364136223846793005 + 1442695040888963407
	return int(uint64(*s) >> 33 % uint64(n))
}

// anyInt returns a small number, or one of those far away.
func (s *numbers) anyInt() int {
	if s.next(4) == 0 {
		return farInts[s.next(len(farInts))]
	}
	return s.next(1200) - 300
}

// undisturbing changes a line by any call but Tick and Reset.
func undisturbing(s *numbers, l api.Line) api.Line {
	switch s.next(6) {
	case 0:
		return line.Type(l, s.anyInt())
	case 1:
		l, _ = line.Read(l, 2*s.next(4))
	case 2:
		l, _ = line.Read(l, s.anyInt())
	case 3:
		return line.Write(l, 2*s.next(4), s.anyInt())
	case 4:
		return line.Write(l, s.anyInt(), s.anyInt())
	case 5:
		return line.Accept(l, s.next(4), 128+4*s.next(8))
	}
	return l
}

func TestWrittenBytesAreSentInTheFourthTick(t *testing.T) {
	s := numbers(1)
	for _, before := range validLines() {
		if !before.TxReady {
			continue
		}
		v := s.anyInt()
		l := line.Write(before, 6, v)
		for n := 1; n <= 4; n++ {
			for range s.next(4) {
				l = undisturbing(&s, l)
			}
			if l.Out != before.Out || l.TxReady {
				t.Fatalf("before tick %d: %+v", n, short(l))
			}
			l = line.Tick(l)
		}
		want := before.Out + string([]byte{byte(remainder(v, 256))})
		if len(want) > 4096 {
			want = want[1:]
		}
		if l.Out != want || !l.TxReady {
			t.Fatalf("after the fourth tick: %+v", short(l))
		}
	}
}

func TestResetEndsSending(t *testing.T) {
	for ticks := range 4 {
		l := line.Write(line.New(), 6, 65)
		for range ticks {
			l = line.Tick(l)
		}
		l = line.Reset(l)
		for range 9 {
			l = line.Tick(l)
		}
		if l.Out != "" || !l.TxReady {
			t.Errorf("a reset after %d ticks: %+v", ticks, l)
		}
		// The next byte takes four ticks again.
		l = line.Write(l, 6, 66)
		for n := 1; n <= 4; n++ {
			if l.Out != "" {
				t.Errorf("a reset after %d ticks: %q before tick %d", ticks, l.Out, n)
			}
			l = line.Tick(l)
		}
		if l.Out != "B" {
			t.Errorf("a reset after %d ticks: %+v", ticks, l)
		}
	}
}

func TestTypedBytesAreReadOnce(t *testing.T) {
	for _, before := range validLines() {
		for _, b := range []int{0, 65, 255, 300, -1} {
			l := line.Type(before, b)
			if _, status := line.Read(l, 0); status < 128 {
				t.Fatalf("after Type the status is %d", status)
			}
			l, v := line.Read(l, 2)
			if remainder(v, 256) != remainder(b, 256) || l.RxReady || l.Overrun {
				t.Fatalf("after Type(%+v, %d) %d is read: %+v", short(before), b, v, short(l))
			}
			if again, v := line.Read(l, 2); again != l || v != remainder(b, 256) {
				t.Fatalf("%d is read the second time: %+v", v, short(again))
			}
			if _, status := line.Read(l, 0); status >= 128 {
				t.Fatalf("after the data was read the status is %d", status)
			}
		}
	}
}

// model is a line as its users see it: the number of the bytes that were typed and not read, all the bytes that were sent, and the tick after which the transmitter is ready.
type model struct {
	rxEnable, txEnable bool
	unread, typed      int
	now, done, written int
	sent               []byte
}

func (m *model) sending() bool {
	return m.now < m.done
}

func (m *model) tick() {
	m.now++
	if m.now == m.done {
		m.sent = append(m.sent, byte(m.written))
	}
}

func (m *model) write(reg, v int) {
	switch {
	case reg == 0:
		m.rxEnable = bit6(v)
	case reg == 4:
		m.txEnable = bit6(v)
	case reg == 6 && !m.sending():
		m.done, m.written = m.now+4, remainder(v, 256)
	}
}

func (m *model) read(reg int) int {
	v := 0
	switch reg {
	case 0:
		if m.rxEnable {
			v += 64
		}
		if m.unread > 0 {
			v += 128
		}
	case 2:
		v = m.typed
		if m.unread > 1 {
			v += 32768
		}
		m.unread = 0
	case 4:
		if m.txEnable {
			v += 64
		}
		if !m.sending() {
			v += 128
		}
	}
	return v
}

func (m *model) reset() {
	m.rxEnable, m.txEnable, m.unread, m.done = false, false, 0, m.now
}

// line returns the line of a model.
func (m *model) line() api.Line {
	out := m.sent[max(0, len(m.sent)-4096):]
	return api.Line{RxEnable: m.rxEnable, RxReady: m.unread > 0, Overrun: m.unread > 1, RxData: m.typed,
		TxEnable: m.txEnable, TxReady: !m.sending(), TxData: m.written, TxLeft: max(0, m.done-m.now), Out: string(out)}
}

// step does the same with a line and with its model, and reports whether the same was read.
func step(s *numbers, l api.Line, m *model) (api.Line, bool) {
	reg := 2 * s.next(4)
	if s.next(8) == 0 {
		reg = s.anyInt()
	}
	switch n := s.next(100); {
	case n < 55:
		m.tick()
		return line.Tick(l), true
	case n < 65:
		b := s.anyInt()
		m.unread++
		m.typed = remainder(b, 256)
		return line.Type(l, b), true
	case n < 75:
		l, v := line.Read(l, reg)
		return l, v == m.read(reg)
	case n < 98:
		v := s.anyInt()
		m.write(reg, v)
		return line.Write(l, reg, v), true
	case n < 99:
		return line.Accept(l, s.next(4), 128+4*s.next(8)), true
	}
	m.reset()
	return line.Reset(l), true
}

func TestLongRuns(t *testing.T) {
	for seed := range 4 {
		s := numbers(seed)
		l, m := line.New(), &model{}
		for n := range 150000 {
			var same bool
			l, same = step(&s, l, m)
			if want := m.line(); l != want || !same {
				t.Fatalf("run %d, call %d: %+v, want %+v; the same was read: %v", seed, n, short(l), short(want), same)
			}
			if !line.Right(l) {
				t.Fatalf("run %d, call %d: %+v is not valid", seed, n, short(l))
			}
		}
		if len(m.sent) <= 4096 {
			t.Errorf("run %d: only %d bytes were sent", seed, len(m.sent))
		}
	}
}

func TestResultsOfValidLinesAreValid(t *testing.T) {
	for _, l := range validLines() {
		for i, next := range results(l) {
			if !line.Right(next) {
				t.Fatalf("result %d of %+v is %+v", i, short(l), short(next))
			}
		}
		for _, n := range farInts {
			read, _ := line.Read(l, n)
			for i, next := range []api.Line{read, line.Type(l, n), line.Write(l, n, n), line.Write(l, 0, n), line.Write(l, 4, n), line.Write(l, 6, n), line.Accept(l, n, n)} {
				if !line.Right(next) {
					t.Fatalf("result %d of %+v with %d is %+v", i, short(l), n, short(next))
				}
			}
		}
	}
}

// The examples of the chapter.

func TestExamples(t *testing.T) {
	l := line.Type(line.Type(line.New(), 65), 66)
	l, first := line.Read(l, 2)
	_, second := line.Read(l, 2)
	if first != 66+32768 || second != 66 {
		t.Error("example 1:", first, second)
	}
	l = line.Write(line.New(), 6, 0x141)
	if l.TxData != 65 {
		t.Error("example 2: a byte is written", l)
	}
	l = line.Tick(line.Tick(line.Tick(l)))
	if _, v := line.Read(l, 4); v != 0 || l.Out != "" {
		t.Error("example 2: three ticks", v, l)
	}
	l = line.Tick(l)
	if _, v := line.Read(l, 4); v != 128 || l.Out != "A" {
		t.Error("example 2: four ticks", v, l)
	}
	l = line.Write(line.New(), 4, 64)
	if got := line.Requests(l, 1); !slices.Equal(got, requests(140)) {
		t.Error("example 3: line 1", got)
	}
	if got := line.Requests(l, 4); len(got) != 0 {
		t.Error("example 3: line 4", got)
	}
}
