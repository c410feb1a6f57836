package clock_test

import (
	"math"
	"slices"
	"testing"

	"emulator/api"
	"emulator/clock"
)

// state returns a clock.
func state(enable, ready bool, period, left int) api.Clock {
	return api.Clock{Enable: enable, Ready: ready, Period: period, Left: left}
}

// farInts has integers far from periods, vectors and words, many of which become one of them when they are cut to fewer bits.
var farInts = []int{math.MinInt, math.MinInt + 1, math.MinInt + 2, math.MinInt + 64, math.MinInt + 128, math.MinInt + 192, -1 << 62, -1<<62 + 1, -1<<62 + 64, -1 << 40, -1 << 32, -1<<32 + 1, -1<<32 + 2, -1<<32 + 64, -1<<32 + 192, -1 << 31, -1<<31 + 1, -131072, -65537, -65536, -65535, -65472, -32769, -32768, -32767, -256, -255, -192, -128, -65, -64, -63, -3, -2, -1,
	65536, 65537, 65538, 65536 + 64, 65536 + 128, 65536 + 192, 131071, 131072, 1<<31 - 1, 1 << 31, 1<<31 + 1, 1<<32 - 1, 1 << 32, 1<<32 + 1, 1<<32 + 64, 1<<32 + 192, 1 << 40, 1<<40 + 64, 1 << 62, 1<<62 + 1, 1<<62 + 64, math.MaxInt - 128, math.MaxInt - 64, math.MaxInt - 1, math.MaxInt}

var bools = []bool{false, true}

// somePeriods has periods that are allowed.
var somePeriods = []int{1, 2, 3, 4, 5, 7, 16, 50, 63, 64, 65, 100, 128, 192, 255, 256, 257, 1000, 32767, 32768, 65534, 65535}

// lefts returns ticks that may be left of a period.
func lefts(period int) []int {
	all := []int{1, 2, 3, 64, period / 2, period - 2, period - 1, period}
	all = slices.DeleteFunc(all, func(left int) bool { return left < 1 || left > period })
	slices.Sort(all)
	return slices.Compact(all)
}

// validClocks returns valid clocks in all four states.
func validClocks() []api.Clock {
	var all []api.Clock
	for _, period := range somePeriods {
		for _, left := range lefts(period) {
			for _, enable := range bools {
				for _, ready := range bools {
					all = append(all, state(enable, ready, period, left))
				}
			}
		}
	}
	return all
}

// wrongClocks returns clocks that are not valid, in all four states.
func wrongClocks() []api.Clock {
	numbers := append([]int{0}, farInts...)
	var all []api.Clock
	for _, enable := range bools {
		for _, ready := range bools {
			for _, n := range numbers {
				for _, period := range []int{1, 2, 64, 65535} {
					all = append(all, state(enable, ready, period, n), state(enable, ready, n, period))
				}
				for _, m := range numbers {
					all = append(all, state(enable, ready, n, m))
				}
			}
			for _, period := range somePeriods {
				all = append(all, state(enable, ready, period, period+1), state(enable, ready, period, -period))
			}
		}
	}
	return all
}

// allWords returns all words, and integers beyond them.
func allWords() []int {
	all := append([]int{}, farInts...)
	for w := -70000; w < 140000; w++ {
		all = append(all, w)
	}
	return all
}

// bit returns bit n of an integer. It divides, so that negative ones are counted as two's complement by rounding down.
func bit(v, n int) bool {
	for range n {
		if v%2 != 0 && v < 0 {
			v--
		}
		v /= 2
	}
	return v%2 != 0
}

func TestBit(t *testing.T) {
	for _, k := range []struct {
		v, n int
		want bool
	}{{64, 6, true}, {64, 7, false}, {192, 7, true}, {-1, 6, true}, {-1, 7, true}, {-64, 6, true}, {-65, 6, false}, {-65, 7, true}, {-128, 6, false}, {-128, 7, true}, {-129, 7, false}, {math.MinInt, 6, false}, {math.MinInt + 192, 7, true}, {math.MaxInt, 7, true}} {
		if got := bit(k.v, k.n); got != k.want {
			t.Errorf("bit %d of %d is %v", k.n, k.v, got)
		}
	}
}

// P13.1: New, Right.

func TestNewCases(t *testing.T) {
	for _, k := range []struct {
		period int
		want   api.Clock
		e      api.Errno
	}{
		{1, api.Clock{Period: 1, Left: 1}, api.OK},
		{2, api.Clock{Period: 2, Left: 2}, api.OK},
		{50, api.Clock{Period: 50, Left: 50}, api.OK},
		{32768, api.Clock{Period: 32768, Left: 32768}, api.OK},
		{65534, api.Clock{Period: 65534, Left: 65534}, api.OK},
		{65535, api.Clock{Period: 65535, Left: 65535}, api.OK},
		{0, api.Clock{}, api.ErrRange},
		{65536, api.Clock{}, api.ErrRange},
		{65537, api.Clock{}, api.ErrRange},
		{-1, api.Clock{}, api.ErrRange},
		{-2, api.Clock{}, api.ErrRange},
		{-65535, api.Clock{}, api.ErrRange},
		{1<<32 + 1, api.Clock{}, api.ErrRange},
		{math.MaxInt, api.Clock{}, api.ErrRange},
		{math.MinInt, api.Clock{}, api.ErrRange},
		{math.MinInt + 1, api.Clock{}, api.ErrRange},
	} {
		if c, e := clock.New(k.period); c != k.want || e != k.e {
			t.Errorf("New(%d) = %v, %d, want %v, %d", k.period, c, e, k.want, k.e)
		}
	}
}

func TestNewOfAllPeriods(t *testing.T) {
	for period := 1; period <= 65535; period++ {
		c, e := clock.New(period)
		if c != state(false, false, period, period) || e != api.OK || !clock.Right(c) {
			t.Fatalf("New(%d) = %v, %d", period, c, e)
		}
	}
}

func TestNewOfOtherPeriods(t *testing.T) {
	wrong := append([]int{}, farInts...)
	for n := range 70000 {
		wrong = append(wrong, -n, 65536+n)
	}
	for _, period := range wrong {
		if c, e := clock.New(period); c != (api.Clock{}) || e != api.ErrRange {
			t.Fatalf("New(%d) = %v, %d", period, c, e)
		}
	}
}

func TestRightCases(t *testing.T) {
	for _, k := range []struct {
		period, left int
		want         bool
	}{
		{1, 1, true}, {1, 0, false}, {1, 2, false}, {1, -1, false},
		{2, 1, true}, {2, 2, true}, {2, 0, false}, {2, 3, false},
		{9, 4, true}, {9, 9, true}, {9, 10, false}, {9, 0, false}, {9, -9, false},
		{65535, 1, true}, {65535, 65535, true}, {65535, 65534, true}, {65535, 0, false}, {65535, 65536, false},
		{65536, 1, false}, {65536, 65535, false}, {65536, 65536, false}, {65536, 0, false},
		{0, 0, false}, {0, 1, false}, {0, -1, false}, {-1, -1, false}, {-1, 1, false}, {-1, -2, false}, {-5, 3, false},
		{math.MaxInt, 1, false}, {math.MinInt, 1, false}, {5, math.MaxInt, false}, {5, math.MinInt, false}, {math.MaxInt, math.MaxInt, false}, {math.MinInt, math.MinInt, false},
		{1<<32 + 5, 3, false}, {5, 1<<32 + 3, false}, {65536 + 5, 3, false}, {5, 65536 + 3, false}, {5, -65536 + 3, false},
	} {
		for _, enable := range bools {
			for _, ready := range bools {
				c := state(enable, ready, k.period, k.left)
				if got := clock.Right(c); got != k.want {
					t.Errorf("Right(%v) = %v, want %v", c, got, k.want)
				}
			}
		}
	}
}

func TestRightOfManyClocks(t *testing.T) {
	for _, period := range somePeriods {
		for left := -300; left <= period+300; left++ {
			c := state(left%2 == 0, left%3 == 0, period, left)
			if got := clock.Right(c); got != (left > 0 && left <= period) {
				t.Fatalf("Right(%v) = %v", c, got)
			}
		}
	}
	for _, c := range validClocks() {
		if !clock.Right(c) {
			t.Errorf("Right(%v) = false", c)
		}
	}
	for _, c := range wrongClocks() {
		if clock.Right(c) {
			t.Errorf("Right(%v) = true", c)
		}
	}
}

// P13.2: Tick.

func TestTickCases(t *testing.T) {
	for _, k := range []struct{ before, after api.Clock }{
		{state(false, false, 2, 2), state(false, false, 2, 1)},
		{state(false, false, 2, 1), state(false, true, 2, 2)},
		{state(false, true, 2, 2), state(false, true, 2, 1)}, // stays ready
		{state(false, true, 2, 1), state(false, true, 2, 2)},
		{state(true, false, 2, 2), state(true, false, 2, 1)}, // stays enabled
		{state(true, false, 2, 1), state(true, true, 2, 2)},
		{state(true, true, 2, 2), state(true, true, 2, 1)},
		{state(true, true, 2, 1), state(true, true, 2, 2)},
		{state(false, false, 1, 1), state(false, true, 1, 1)}, // a period of one tick
		{state(false, true, 1, 1), state(false, true, 1, 1)},
		{state(true, false, 1, 1), state(true, true, 1, 1)},
		{state(true, true, 1, 1), state(true, true, 1, 1)},
		{state(false, false, 9, 5), state(false, false, 9, 4)},
		{state(true, true, 9, 3), state(true, true, 9, 2)},
		{state(true, false, 9, 2), state(true, false, 9, 1)},
		{state(true, false, 9, 1), state(true, true, 9, 9)},
		{state(false, false, 65535, 65535), state(false, false, 65535, 65534)},
		{state(false, false, 65535, 32768), state(false, false, 65535, 32767)},
		{state(false, false, 65535, 2), state(false, false, 65535, 1)},
		{state(false, false, 65535, 1), state(false, true, 65535, 65535)},
	} {
		if got := clock.Tick(k.before); got != k.after {
			t.Errorf("Tick(%v) = %v, want %v", k.before, got, k.after)
		}
	}
}

func TestTickOfManyClocks(t *testing.T) {
	for _, c := range validClocks() {
		want := state(c.Enable, c.Ready, c.Period, c.Left-1)
		if c.Left == 1 {
			want = state(c.Enable, true, c.Period, c.Period)
		}
		if got := clock.Tick(c); got != want || !clock.Right(got) {
			t.Errorf("Tick(%v) = %v, want %v", c, got, want)
		}
	}
}

// P13.3: Read, Write.

// fourStates has the four states of a clock, and what is read of them.
var fourStates = []struct {
	enable, ready bool
	status        int
}{{false, false, 0}, {true, false, 64}, {false, true, 128}, {true, true, 192}}

func TestReadOfAllStates(t *testing.T) {
	for _, period := range somePeriods {
		for _, left := range lefts(period) {
			for _, k := range fourStates {
				c := state(k.enable, k.ready, period, left)
				if got := clock.Read(c); got != k.status {
					t.Errorf("Read(%v) = %d, want %d", c, got, k.status)
				}
			}
		}
	}
}

func TestWriteCases(t *testing.T) {
	for _, k := range []struct {
		enable, ready bool // before
		v             int
		status        int // afterwards
	}{
		{false, false, 0, 0}, {false, false, 64, 64}, {false, false, 128, 0}, {false, false, 192, 64}, // writing makes no clock ready
		{true, false, 0, 0}, {true, false, 64, 64}, {true, false, 128, 0}, {true, false, 192, 64},
		{false, true, 0, 0}, {false, true, 64, 64}, {false, true, 128, 128}, {false, true, 192, 192},
		{true, true, 0, 0}, {true, true, 64, 64}, {true, true, 128, 128}, {true, true, 192, 192},
		{true, true, 63, 0}, {true, true, 256, 0}, {true, true, 32768, 0}, {true, true, 0xFF3F, 0}, // other bits
		{true, true, 0xFF7F, 64}, {true, true, 0xFFBF, 128}, {true, true, 0xFFFF, 192}, {true, false, 0xFFFF, 64},
		{false, false, 0xFF3F, 0}, {false, false, 0xFFFF, 64}, {false, true, 255, 192}, {false, true, 127, 64}, {false, true, 191, 128},
		{true, true, -1, 192}, {true, true, -64, 192}, {true, true, -65, 128}, {true, true, -128, 128}, {true, true, -129, 64}, {true, true, -192, 64}, {true, true, -193, 0}, {true, true, -256, 0}, {false, false, -1, 64}, // negative values
		{true, true, math.MaxInt, 192}, {true, true, math.MaxInt - 64, 128}, {true, true, math.MaxInt - 128, 64}, {true, true, math.MaxInt - 192, 0}, {false, false, math.MaxInt, 64},
		{true, true, math.MinInt, 0}, {true, true, math.MinInt + 64, 64}, {true, true, math.MinInt + 128, 128}, {true, true, math.MinInt + 192, 192}, {false, false, math.MinInt + 192, 64},
		{true, true, 65536, 0}, {true, true, 65536 + 192, 192}, {true, true, 1 << 40, 0}, {true, true, 1<<40 + 64, 64}, {true, true, 1 << 62, 0}, {true, true, 1<<62 + 128, 128},
	} {
		before := state(k.enable, k.ready, 9, 4)
		want := state(k.status&64 != 0, k.status&128 != 0, 9, 4)
		got := clock.Write(before, k.v)
		if got != want || clock.Read(got) != k.status {
			t.Errorf("Write(%v, %#x) = %v, %d, want %v", before, k.v, got, clock.Read(got), want)
		}
	}
}

func TestWriteOfAllWords(t *testing.T) {
	for _, v := range allWords() {
		enabled, ready := bit(v, 6), bit(v, 7)
		for _, k := range fourStates {
			c := state(k.enable, k.ready, 300, 64)
			if got, want := clock.Write(c, v), state(enabled, k.ready && ready, 300, 64); got != want {
				t.Fatalf("Write(%v, %#x) = %v, want %v", c, v, got, want)
			}
		}
	}
}

func TestWriteToManyClocks(t *testing.T) {
	values := append([]int{0, 63, 64, 127, 128, 191, 192, 255, 256, 32768, 65535}, farInts...)
	for _, c := range validClocks() {
		for _, v := range values {
			want := state(bit(v, 6), c.Ready && bit(v, 7), c.Period, c.Left)
			if got := clock.Write(c, v); got != want || !clock.Right(got) {
				t.Fatalf("Write(%v, %#x) = %v, want %v", c, v, got, want)
			}
		}
	}
}

// P13.4: Requests, Accept, Reset.

// theRequest returns what a clock requests that is enabled and ready.
func theRequest() []api.Request {
	return []api.Request{{Priority: 6, Vector: 64}}
}

func TestRequestsOfAllStates(t *testing.T) {
	for _, k := range []struct {
		enable, ready bool
		want          []api.Request
	}{{false, false, nil}, {true, false, nil}, {false, true, nil}, {true, true, theRequest()}} {
		for _, period := range somePeriods {
			for _, left := range lefts(period) {
				c := state(k.enable, k.ready, period, left)
				if got := clock.Requests(c); !slices.Equal(got, k.want) {
					t.Errorf("Requests(%v) = %v, want %v", c, got, k.want)
				}
			}
		}
	}
}

func TestRequestsReturnsNewMemory(t *testing.T) {
	c := state(true, true, 9, 4)
	first, second := clock.Requests(c), clock.Requests(c)
	overwrite(first)
	if third := clock.Requests(c); !slices.Equal(second, theRequest()) || !slices.Equal(third, theRequest()) {
		t.Errorf("a changed result changes others: %v, %v", second, third)
	}
	second = append(second, api.Request{Priority: 4, Vector: 128})
	overwrite(second)
	if got := clock.Requests(c); !slices.Equal(got, theRequest()) {
		t.Errorf("a longer result changes others: %v", got)
	}
}

// overwrite changes all elements of a list, and the memory behind its end.
func overwrite(l []api.Request) {
	l = l[:cap(l)]
	for i := range l {
		l[i] = api.Request{Priority: -1, Vector: -1}
	}
}

func TestAcceptOfTheClock(t *testing.T) {
	for _, c := range validClocks() {
		if got, want := clock.Accept(c, 64), state(c.Enable, false, c.Period, c.Left); got != want || !clock.Right(got) {
			t.Errorf("Accept(%v, 64) = %v, want %v", c, got, want)
		}
	}
}

func TestAcceptOfOtherVectors(t *testing.T) {
	// Among them are those of traps and of the other devices.
	vectors := slices.DeleteFunc(append([]int{}, farInts...), func(v int) bool { return v == 64 })
	for v := -300; v <= 700; v++ {
		if v != 64 {
			vectors = append(vectors, v)
		}
	}
	for _, c := range validClocks() {
		for _, v := range vectors {
			if got := clock.Accept(c, v); got != c {
				t.Fatalf("Accept(%v, %d) = %v", c, v, got)
			}
		}
	}
}

func TestAcceptCases(t *testing.T) {
	both := state(true, true, 9, 4)
	for _, v := range []int{0, 4, 36, 60, 63, 65, 68, 128, 132, 136, 140, 144, 148, 152, 156, 160, 164, 192, 320, -64, -1, 64 + 256, 64 + 65536, 1<<32 + 64, 1<<62 + 64, math.MinInt + 64, math.MinInt, math.MaxInt} {
		if got := clock.Accept(both, v); got != both {
			t.Errorf("Accept(%v, %d) = %v", both, v, got)
		}
	}
	for _, k := range []struct{ before, after api.Clock }{
		{state(false, false, 9, 4), state(false, false, 9, 4)},
		{state(true, false, 9, 4), state(true, false, 9, 4)},
		{state(false, true, 9, 4), state(false, false, 9, 4)}, // also where it could not interrupt
		{state(true, true, 9, 4), state(true, false, 9, 4)},
	} {
		if got := clock.Accept(k.before, 64); got != k.after {
			t.Errorf("Accept(%v, 64) = %v, want %v", k.before, got, k.after)
		}
	}
}

func TestResetCases(t *testing.T) {
	for _, k := range []struct{ before, after api.Clock }{
		{state(false, false, 7, 7), state(false, false, 7, 7)},
		{state(true, false, 7, 7), state(false, false, 7, 7)},
		{state(false, true, 7, 7), state(false, false, 7, 7)},
		{state(true, true, 7, 7), state(false, false, 7, 7)},
		{state(false, false, 7, 3), state(false, false, 7, 7)}, // ticks that are gone
		{state(true, false, 7, 6), state(false, false, 7, 7)},
		{state(false, true, 7, 2), state(false, false, 7, 7)},
		{state(true, true, 7, 1), state(false, false, 7, 7)},
		{state(true, true, 1, 1), state(false, false, 1, 1)},
		{state(true, true, 65535, 1), state(false, false, 65535, 65535)},
	} {
		if got := clock.Reset(k.before); got != k.after {
			t.Errorf("Reset(%v) = %v, want %v", k.before, got, k.after)
		}
	}
}

func TestResetIsANewClock(t *testing.T) {
	for _, c := range validClocks() {
		want, e := clock.New(c.Period)
		if got := clock.Reset(c); got != want || e != api.OK || !clock.Right(got) {
			t.Errorf("Reset(%v) = %v, want %v", c, got, want)
		}
	}
}

// All calls.

func TestClocksStayAsTheyAre(t *testing.T) {
	for _, c := range append(validClocks(), wrongClocks()...) {
		before := c
		results := []api.Clock{clock.Tick(c), clock.Write(c, 64), clock.Write(c, 128), clock.Accept(c, 64), clock.Reset(c)}
		status, right := clock.Read(c), clock.Right(c)
		list := clock.Requests(c)
		overwrite(list)
		if c != before {
			t.Fatalf("%v has become %v", before, c)
		}
		again := []api.Clock{clock.Tick(c), clock.Write(c, 64), clock.Write(c, 128), clock.Accept(c, 64), clock.Reset(c)}
		if !slices.Equal(again, results) || clock.Read(c) != status || clock.Right(c) != right {
			t.Fatalf("the calls of %v differ the second time: %v, %v", c, results, again)
		}
	}
}

func TestWrongClocksDoNotPanic(t *testing.T) {
	for _, c := range wrongClocks() {
		clock.Tick(c)
		clock.Read(c)
		clock.Requests(c)
		clock.Reset(c)
		for _, n := range farInts {
			clock.Write(c, n)
			clock.Accept(c, n)
		}
		clock.Accept(c, 64)
	}
}

// P13.5: the consequences.

// ticksThatMakeReady returns the numbers, up to a last one, of the ticks that make a clock ready. Each of them is taken back.
func ticksThatMakeReady(c api.Clock, last int) []int {
	var numbers []int
	for n := 1; n <= last; n++ {
		c = clock.Tick(c)
		if c.Ready {
			numbers = append(numbers, n)
			c = clock.Write(c, 0)
		}
	}
	return numbers
}

// multiples returns the multiples of a period up to a last number.
func multiples(period, last int) []int {
	var numbers []int
	for n := period; n <= last; n += period {
		numbers = append(numbers, n)
	}
	return numbers
}

func TestReadyAtMultiplesOfThePeriod(t *testing.T) {
	for period := 1; period <= 300; period++ {
		c, _ := clock.New(period)
		last := 5*period + period/2
		if got, want := ticksThatMakeReady(c, last), multiples(period, last); !slices.Equal(got, want) {
			t.Fatalf("the ticks %v make a clock with the period %d ready, want %v", got, period, want)
		}
	}
	for _, period := range []int{1000, 4095, 32767, 32768, 65534, 65535} {
		c, _ := clock.New(period)
		if got, want := ticksThatMakeReady(c, 4*period-1), multiples(period, 4*period-1); !slices.Equal(got, want) {
			t.Fatalf("the ticks %v make a clock with the period %d ready, want %v", got, period, want)
		}
	}
}

func TestReadyFromTheFirstPeriodOn(t *testing.T) {
	for _, period := range []int{1, 2, 3, 10, 257} {
		c, _ := clock.New(period)
		for n := 1; n <= 4*period; n++ {
			c = clock.Tick(c)
			if c.Ready != (n >= period) || c.Enable {
				t.Fatalf("tick %d of a clock with the period %d: %v", n, period, c)
			}
		}
	}
}

// interrupts returns the numbers, up to a last one, of the ticks after which an enabled clock requests an interrupt, each of which is accepted at once.
func interrupts(t *testing.T, c api.Clock, last int) []int {
	t.Helper()
	var numbers []int
	for n := 1; n <= last; n++ {
		c = clock.Tick(c)
		l := clock.Requests(c)
		if len(l) == 0 {
			continue
		}
		numbers = append(numbers, n)
		c = clock.Accept(c, l[0].Vector)
		if !slices.Equal(l, theRequest()) || len(clock.Requests(c)) != 0 || clock.Read(c) != 64 {
			t.Fatalf("the interrupt after tick %d: %v, %v", n, l, c)
		}
	}
	return numbers
}

func TestOneInterruptInEachPeriod(t *testing.T) {
	for _, period := range []int{1, 2, 3, 4, 5, 10, 63, 64, 65, 255, 256, 257, 1000, 32768, 65535} {
		c, _ := clock.New(period)
		c = clock.Write(c, 64)
		last := 4*period + period/2
		if got, want := interrupts(t, c, last), multiples(period, last); !slices.Equal(got, want) {
			t.Fatalf("with the period %d the ticks %v lead to interrupts, want %v", period, got, want)
		}
	}
}

func TestInterruptsThatAreNotAccepted(t *testing.T) {
	c, _ := clock.New(3)
	c = clock.Write(c, 64)
	for n := 1; n <= 12; n++ {
		c = clock.Tick(c)
		if got := clock.Requests(c); (len(got) == 1) != (n >= 3) {
			t.Fatalf("after tick %d: %v", n, got)
		}
	}
	// However many periods have ended, there is one interrupt.
	if c = clock.Accept(c, 64); len(clock.Requests(c)) != 0 {
		t.Errorf("after they were accepted: %v", c)
	}
}

func TestResetStartsAPeriod(t *testing.T) {
	for _, period := range []int{1, 2, 5, 64, 1000} {
		c, _ := clock.New(period)
		for range period / 2 {
			c = clock.Tick(c)
		}
		if got, want := ticksThatMakeReady(clock.Reset(c), 3*period), multiples(period, 3*period); !slices.Equal(got, want) {
			t.Errorf("after a reset the ticks %v make a clock with the period %d ready, want %v", got, period, want)
		}
	}
}

// The examples of the chapter.

func TestExamples(t *testing.T) {
	if c, e := clock.New(0); c != (api.Clock{}) || e != api.ErrRange {
		t.Error("example 1: a period of 0", c, e)
	}
	c, e := clock.New(2)
	if c.Left != 2 || e != api.OK {
		t.Error("example 1: a period of 2", c, e)
	}
	if c = clock.Tick(c); c.Left != 1 || c.Ready {
		t.Error("example 1: one tick", c)
	}
	if c = clock.Tick(c); c.Left != 2 || !c.Ready {
		t.Error("example 1: two ticks", c)
	}
	if clock.Read(c) != 128 {
		t.Error("example 2: the clock", c)
	}
	both := clock.Write(c, 192)
	if !both.Enable || !both.Ready || clock.Read(both) != 192 || !slices.Equal(clock.Requests(both), theRequest()) {
		t.Error("example 2: 192 is written", both, clock.Requests(both))
	}
	if accepted := clock.Accept(both, 64); clock.Read(accepted) != 64 {
		t.Error("example 2: 64 is accepted", accepted)
	}
	if w := clock.Write(c, 128); clock.Read(w) != 128 {
		t.Error("example 2: 128 is written", w)
	}
	if w := clock.Write(c, 0); clock.Read(w) != 0 {
		t.Error("example 2: 0 is written", w)
	}
}
