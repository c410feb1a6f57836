package tape_test

import (
	"math"
	"slices"
	"strconv"
	"strings"
	"testing"

	"emulator/api"
	"emulator/memory"
	"emulator/tape"
)

// farInts has integers far from words and registers, many of which become one of them when they are cut to fewer bits.
var farInts = []int{math.MinInt, math.MinInt + 1, math.MinInt + 2, math.MinInt + 3, math.MinInt + 4, math.MinInt + 15, math.MinInt + 164, -1 << 62, -1<<62 + 2, -1<<62 + 67, -1 << 40, -1 << 32, -1<<32 + 1, -1<<32 + 2, -1<<32 + 4, -1<<32 + 16, -1<<32 + 164, -1 << 31, -1<<31 + 1, -65537, -65536, -65535, -65536 + 164, -32769, -32768, -513, -512, -257, -256, -255, -254, -252, -92,
	65536, 65537, 65538, 65540, 65552, 65536 + 164, 131072, 1<<31 - 1, 1 << 31, 1<<31 + 2, 1<<32 - 1, 1 << 32, 1<<32 + 1, 1<<32 + 2, 1<<32 + 4, 1<<32 + 16, 1<<32 + 164, 1 << 40, 1<<40 + 67, 1 << 61, 1 << 62, 1<<62 + 2, 1<<62 + 164, math.MaxInt - 255, math.MaxInt - 64, math.MaxInt - 2, math.MaxInt - 1, math.MaxInt}

var bools = []bool{false, true}

// upTo returns the numbers from a first to a last one.
func upTo(first, last int) []int {
	var l []int
	for n := first; n <= last; n++ {
		l = append(l, n)
	}
	return l
}

// remainder returns n modulo d, from 0 on.
func remainder(n, d int) int {
	n %= d
	if n < 0 {
		n += d
	}
	return n
}

// text returns n bytes of all values. Texts of different kinds differ, if they have at least one byte.
func text(n, kind int) string {
	b := make([]byte, n)
	for i := range b {
		b[i] = byte(37*i + 101*kind + 200)
	}
	return string(b)
}

// reel returns records of some lengths that all differ, unless they are empty.
func reel(lengths ...int) []string {
	var l []string
	for i, n := range lengths {
		l = append(l, text(n, i))
	}
	return l
}

// fullReel returns 64 records, every seventh of which is empty, and every fifth as long as it may be.
func fullReel() []string {
	var l []string
	for i := range 64 {
		switch {
		case i%7 == 6:
			l = append(l, "")
		case i%5 == 4:
			l = append(l, text(512, i))
		default:
			l = append(l, text(1+i, i))
		}
	}
	return l
}

// words returns a memory whose words all differ from their neighbours.
func words(size int) []int {
	l := make([]int, size/2)
	for i := range l {
		l[i] = (i*40503 + 7) % 65536
	}
	return l
}

// idle returns a unit that is ready, with values of its registers.
func idle(records []string, pos, count, addr int) api.Tape {
	return api.Tape{Records: records, Pos: pos, Ready: true, Count: count, Addr: addr}
}

// busy returns a unit of which so many ticks are left of a command.
func busy(records []string, pos, command, count, addr, left int) api.Tape {
	return api.Tape{Records: records, Pos: pos, Command: command, Count: count, Addr: addr, Left: left}
}

// same reports whether two units are equal in all fields.
func same(a, b api.Tape) bool {
	return slices.Equal(a.Records, b.Records) && a.Pos == b.Pos && a.Enable == b.Enable && a.Ready == b.Ready && a.Error == b.Error &&
		a.Mark == b.Mark && a.End == b.End && a.Command == b.Command && a.Count == b.Count && a.Addr == b.Addr && a.Left == b.Left
}

// show returns the fields of a unit, and the lengths of its first records.
func show(t api.Tape) string {
	s := ""
	for _, f := range []struct {
		name string
		set  bool
	}{{"Enable ", t.Enable}, {"Ready ", t.Ready}, {"Error ", t.Error}, {"Mark ", t.Mark}, {"End ", t.End}} {
		if f.set {
			s += f.name
		}
	}
	for _, f := range []struct {
		name string
		n    int
	}{{"Pos", t.Pos}, {" Command", t.Command}, {" Count", t.Count}, {" Addr", t.Addr}, {" Left", t.Left}, {" Records", len(t.Records)}} {
		s += f.name + " " + strconv.Itoa(f.n)
	}
	for _, r := range t.Records[:min(8, len(t.Records))] {
		s += " " + strconv.Itoa(len(r))
	}
	return s
}

// kept returns a copy of a unit.
func kept(t api.Tape) api.Tape {
	t.Records = slices.Clone(t.Records)
	return t
}

// flags are the bools of a unit that may be anything.
type flags struct {
	enable, wrong, mark, end bool
}

// allFlags returns the flags in all ways.
func allFlags() []flags {
	var l []flags
	for n := range 16 {
		l = append(l, flags{n%2 == 1, n/2%2 == 1, n/4%2 == 1, n/8%2 == 1})
	}
	return l
}

// with returns a unit with flags.
func with(t api.Tape, f flags) api.Tape {
	t.Enable, t.Error, t.Mark, t.End = f.enable, f.wrong, f.mark, f.end
	return t
}

// registerValues has numbers of counts and addresses.
var registerValues = [][2]int{{0, 0}, {1, 3}, {512, 254}, {65535, 65535}}

// positions has tapes with a position of the head.
func positions() []api.Tape {
	full := fullReel()
	return []api.Tape{{}, {Records: []string{""}}, {Records: reel(2, 0, 1)}, {Records: reel(2, 0, 1), Pos: 2}, {Records: reel(2, 0, 1), Pos: 3}, {Records: full}, {Records: full, Pos: 31}, {Records: full, Pos: 64}}
}

// validUnits returns valid units: with all flags, all commands, and many numbers of ticks that may be left.
func validUnits() []api.Tape {
	var all []api.Tape
	for _, p := range positions() {
		for _, f := range allFlags() {
			for _, v := range registerValues {
				for command := range 7 {
					for _, left := range []int{0, 1, 2, 15, 16} {
						u := with(busy(p.Records, p.Pos, command, v[0], v[1], left), f)
						u.Ready = left == 0
						all = append(all, u)
					}
				}
			}
		}
	}
	return all
}

// numberFields has functions that set each number of a unit.
var numberFields = []func(t *api.Tape, n int){
	func(t *api.Tape, n int) { t.Pos = n }, func(t *api.Tape, n int) { t.Command = n }, func(t *api.Tape, n int) { t.Count = n }, func(t *api.Tape, n int) { t.Addr = n }, func(t *api.Tape, n int) { t.Left = n },
}

func TestHelpers(t *testing.T) {
	for _, u := range validUnits() {
		if !tape.Right(u) {
			t.Errorf("not valid: %s", show(u))
		}
	}
	if full := fullReel(); len(full) != 64 || full[6] != "" || len(full[4]) != 512 || len(full[63]) != 64 {
		t.Error("the full tape of the test is wrong")
	}
	if len(slices.Compact(slices.Sorted(slices.Values(reel(slices.Repeat([]int{1}, 64)...))))) != 64 {
		t.Error("records of the test are equal")
	}
	for _, k := range []struct{ n, low int }{{0, 0}, {65535, 65535}, {65536, 0}, {65537, 1}, {-1, 65535}, {-65536, 0}, {-65537, 65535}, {math.MinInt, 0}, {math.MinInt + 65, 65}, {math.MaxInt, 65535}} {
		if got := remainder(k.n, 65536); got != k.low {
			t.Errorf("%d modulo 65536 is %d", k.n, got)
		}
	}
	if !memory.Right(words(256), nil) || !memory.Right(words(32768), nil) || len(words(32768)) != 16384 {
		t.Error("the memories of the test are not valid")
	}
	a := busy(reel(2, 0, 1), 1, 2, 4, 3, 5)
	for i, change := range []func(u *api.Tape){
		func(u *api.Tape) { u.Enable = true }, func(u *api.Tape) { u.Ready = true }, func(u *api.Tape) { u.Error = true }, func(u *api.Tape) { u.Mark = true }, func(u *api.Tape) { u.End = true },
		func(u *api.Tape) { u.Pos++ }, func(u *api.Tape) { u.Command++ }, func(u *api.Tape) { u.Count++ }, func(u *api.Tape) { u.Addr++ }, func(u *api.Tape) { u.Left++ },
		func(u *api.Tape) { u.Records[1] = "x" }, func(u *api.Tape) { u.Records = u.Records[:2] },
	} {
		b := kept(a)
		if !same(a, b) {
			t.Error("a copy differs")
		}
		change(&b)
		if same(a, b) {
			t.Errorf("change %d is not seen", i)
		}
	}
}

// P17.1: New, Right.

func TestNew(t *testing.T) {
	for _, records := range [][]string{nil, {}, {""}, {"a"}, {text(511, 3)}, {text(512, 3)}, {"ab", "", "c"}, {"", "", text(512, 9)}, reel(upTo(0, 62)...), fullReel(), make([]string, 64), slices.Repeat([]string{text(512, 4)}, 64), {"\x00\xff\x80", "ä"}} {
		u, e := tape.New(records)
		if e != api.OK || !same(u, api.Tape{Records: records, Ready: true}) {
			t.Errorf("New of %d records: error %d, %s", len(records), e, show(u))
		}
		if !tape.Right(u) {
			t.Errorf("New of %d records is not valid", len(records))
		}
	}
}

func TestNewWithEveryNumberAndLength(t *testing.T) {
	for n := range 200 {
		u, e := tape.New(make([]string, n))
		if want := n > 64; want != (e == api.ErrFull) || !want && (e != api.OK || len(u.Records) != n) {
			t.Errorf("New of %d records: error %d, %s", n, e, show(u))
		}
	}
	for n := range 1100 {
		u, e := tape.New([]string{text(n, 1)})
		if want := n > 512; want != (e == api.ErrLong) || !want && (e != api.OK || u.Records[0] != text(n, 1)) {
			t.Errorf("New of a record of %d bytes: error %d, %s", n, e, show(u))
		}
	}
}

func TestNewWithErrors(t *testing.T) {
	check := func(records []string, want api.Errno) {
		t.Helper()
		if u, e := tape.New(records); e != want || !same(u, api.Tape{}) {
			t.Errorf("New of %d records: error %d, want %d, %s", len(records), e, want, show(u))
		}
	}
	check(make([]string, 65), api.ErrFull)
	check(append(fullReel(), ""), api.ErrFull)
	check(make([]string, 66), api.ErrFull)
	check(make([]string, 128), api.ErrFull)
	check(make([]string, 10000), api.ErrFull)
	check([]string{text(513, 0)}, api.ErrLong)
	check([]string{strings.Repeat("x", 1024)}, api.ErrLong)
	check([]string{strings.Repeat("x", 1<<16)}, api.ErrLong)
	check([]string{text(600, 0), text(700, 0)}, api.ErrLong)
	// The long record may be any of them.
	for _, n := range []int{1, 2, 3, 63, 64} {
		for i := range n {
			records := fullReel()[:n]
			records[i] = text(513, i)
			check(records, api.ErrLong)
		}
	}
	// Both errors at once.
	check(append(make([]string, 64), text(513, 0)), api.ErrFull)
	check(append([]string{text(513, 0)}, make([]string, 64)...), api.ErrFull)
	check(slices.Repeat([]string{text(513, 0)}, 65), api.ErrFull)
}

// wantRight reports whether a unit is valid, field by field.
func wantRight(u api.Tape) bool {
	if len(u.Records) > 64 || u.Pos < 0 || u.Pos > len(u.Records) {
		return false
	}
	for _, r := range u.Records {
		if len(r) > 512 {
			return false
		}
	}
	for _, f := range []struct{ n, most int }{{u.Command, 6}, {u.Count, 65535}, {u.Addr, 65535}, {u.Left, 16}} {
		if f.n < 0 || f.n > f.most {
			return false
		}
	}
	return u.Ready == (u.Left == 0)
}

func TestRightAtAllBounds(t *testing.T) {
	valid, count := 0, 0
	for _, records := range [][]string{nil, reel(512), reel(2, 0, 1), fullReel(), append(fullReel(), ""), reel(1, 513), reel(513, 1)} {
		for _, pos := range []int{-1, 0, 1, len(records) - 1, len(records), len(records) + 1} {
			for _, command := range []int{-1, 0, 6, 7} {
				for _, n := range []int{-1, 0, 65535, 65536} {
					for _, addr := range []int{-1, 0, 65535, 65536} {
						for _, left := range []int{-1, 0, 1, 16, 17} {
							for _, f := range allFlags() {
								for _, ready := range bools {
									u := with(busy(records, pos, command, n, addr, left), f)
									u.Ready = ready
									want := wantRight(u)
									if got := tape.Right(u); got != want {
										t.Fatalf("%v: %s", got, show(u))
									}
									count++
									if want {
										valid++
									}
								}
							}
						}
					}
				}
			}
		}
	}
	if valid < 1000 || valid > count/10 {
		t.Errorf("%d of %d are valid", valid, count)
	}
}

func TestRightByHand(t *testing.T) {
	l := []string{"ab", "", "c"}
	for _, c := range []struct {
		u    api.Tape
		want bool
	}{
		{api.Tape{}, false},
		{api.Tape{Ready: true}, true},
		{api.Tape{Ready: true, Records: []string{}}, true},
		{api.Tape{Ready: true, Records: l}, true},
		{api.Tape{Ready: true, Records: l, Enable: true, Error: true, Mark: true, End: true}, true},
		{api.Tape{Ready: true, Records: l, Pos: -1}, false},
		{api.Tape{Ready: true, Records: l, Pos: 1}, true},
		{api.Tape{Ready: true, Records: l, Pos: 3}, true},
		{api.Tape{Ready: true, Records: l, Pos: 4}, false},
		{api.Tape{Ready: true, Pos: 1}, false},
		{api.Tape{Ready: true, Records: make([]string, 64), Pos: 64}, true},
		{api.Tape{Ready: true, Records: make([]string, 64), Pos: 65}, false},
		{api.Tape{Ready: true, Records: make([]string, 65)}, false},
		{api.Tape{Ready: true, Records: []string{strings.Repeat("x", 512)}}, true},
		{api.Tape{Ready: true, Records: []string{strings.Repeat("x", 513)}}, false},
		{api.Tape{Ready: true, Records: []string{"", strings.Repeat("x", 513), ""}}, false},
		{api.Tape{Ready: true, Command: -1}, false},
		{api.Tape{Ready: true, Command: 6}, true},
		{api.Tape{Ready: true, Command: 7}, false},
		{api.Tape{Ready: true, Count: -1}, false},
		{api.Tape{Ready: true, Count: 65535}, true},
		{api.Tape{Ready: true, Count: 65536}, false},
		{api.Tape{Ready: true, Addr: -1}, false},
		{api.Tape{Ready: true, Addr: 65535}, true},
		{api.Tape{Ready: true, Addr: 65536}, false},
		{api.Tape{Ready: true, Left: -1}, false},
		{api.Tape{Ready: true, Left: 1}, false},
		{api.Tape{Ready: true, Left: 16}, false},
		{api.Tape{Left: -1}, false},
		{api.Tape{Left: 1}, true},
		{api.Tape{Left: 16, Command: 1}, true},
		{api.Tape{Left: 17, Command: 1}, false},
	} {
		if got := tape.Right(c.u); got != c.want {
			t.Errorf("%v: %s", got, show(c.u))
		}
	}
}

func TestRightWithEveryNumber(t *testing.T) {
	for _, records := range [][]string{nil, reel(2, 0, 1), fullReel()} {
		for _, u := range []api.Tape{idle(records, len(records), 8, 7), busy(records, 0, 2, 9, 8, 7)} {
			for i, set := range numberFields {
				for _, n := range slices.Concat(upTo(-300, 300), upTo(65500, 65600), farInts) {
					x := kept(u)
					set(&x, n)
					if want := wantRight(x); tape.Right(x) != want {
						t.Fatalf("%v with %d in field %d: %s", !want, n, i, show(x))
					}
				}
			}
		}
	}
}

func TestRightWithEveryRecord(t *testing.T) {
	for n := range 200 {
		if got := tape.Right(idle(make([]string, n), 0, 0, 0)); got != (n <= 64) {
			t.Errorf("%v with %d records", got, n)
		}
	}
	for n := range 1100 {
		if got := tape.Right(idle(reel(0, n), 0, 0, 0)); got != (n <= 512) {
			t.Errorf("%v with a record of %d bytes", got, n)
		}
	}
	for i := range 64 {
		records := fullReel()
		records[i] = text(513, i)
		if tape.Right(idle(records, 0, 0, 0)) || tape.Right(busy(records, 64, 1, 0, 0, 16)) {
			t.Errorf("valid with a long record %d", i)
		}
	}
}

// P17.2: Read.

func TestReadOfTheStatus(t *testing.T) {
	for _, u := range validUnits() {
		want := []int{0, 2, 4, 6, 8, 10, 12}[u.Command]
		for _, f := range []struct {
			set   bool
			value int
		}{{u.Enable, 64}, {u.Ready, 128}, {u.Mark, 256}, {u.End, 512}, {u.Error, 32768}} {
			if f.set {
				want += f.value
			}
		}
		if got, ok := tape.Read(u, 0); got != want || !ok {
			t.Fatalf("status %d, %v of %s", got, ok, show(u))
		}
	}
}

func TestReadOfTheStatusByHand(t *testing.T) {
	for _, c := range []struct {
		u    api.Tape
		want int
	}{
		{api.Tape{Ready: true}, 128},
		{api.Tape{Ready: true, Command: 1}, 130},
		{api.Tape{Ready: true, Command: 6}, 140},
		{api.Tape{Ready: true, Enable: true}, 192},
		{api.Tape{Ready: true, Mark: true}, 384},
		{api.Tape{Ready: true, End: true}, 640},
		{api.Tape{Ready: true, Error: true}, 32896},
		{api.Tape{Ready: true, Error: true, Mark: true, End: true, Enable: true, Command: 3}, 33734},
		{api.Tape{Left: 16}, 0},
		{api.Tape{Left: 16, Command: 1, Count: 65535, Addr: 65535}, 2},
		{api.Tape{Left: 9, Command: 2}, 4},
		{api.Tape{Left: 1, Command: 4, Enable: true}, 72},
		{api.Tape{Left: 2, Command: 5, Mark: true}, 266},
		{api.Tape{Left: 3, End: true}, 512},
		{api.Tape{Left: 4, Error: true}, 32768},
	} {
		if got, ok := tape.Read(c.u, 0); got != c.want || !ok {
			t.Errorf("status %d, %v of %s", got, ok, show(c.u))
		}
	}
}

func TestReadOfTheOtherRegisters(t *testing.T) {
	for _, u := range validUnits() {
		for _, c := range []struct{ reg, want int }{{2, u.Count}, {4, u.Addr}} {
			if got, ok := tape.Read(u, c.reg); got != c.want || !ok {
				t.Fatalf("register %d: %d, %v of %s", c.reg, got, ok, show(u))
			}
		}
	}
	for v := range 65536 {
		u := idle(nil, 0, v, 65535-v)
		a, _ := tape.Read(u, 2)
		b, _ := tape.Read(u, 4)
		if a != v || b != 65535-v {
			t.Fatalf("registers %d, %d of %s", a, b, show(u))
		}
	}
}

// noRegisters returns numbers that are no registers.
func noRegisters() []int {
	all := slices.Clone(farInts)
	for n := -300; n <= 1100; n++ {
		if n != 0 && n != 2 && n != 4 {
			all = append(all, n)
		}
	}
	return all
}

func TestReadOfNoRegister(t *testing.T) {
	for _, u := range []api.Tape{idle(nil, 0, 9, 8), with(idle(reel(2, 0, 1), 3, 65535, 65535), flags{true, true, true, true}), busy(reel(2, 0, 1), 1, 3, 9, 8, 7)} {
		for _, reg := range noRegisters() {
			if got, ok := tape.Read(u, reg); got != 0 || ok {
				t.Errorf("register %d: %d, %v", reg, got, ok)
			}
		}
	}
}

// P17.3: Write.

// bit reports whether a bit with a value of a number is set.
func bit(v, value int) bool {
	return remainder(v, 2*value) >= value
}

// wantWrite returns the unit in which a register has been written.
func wantWrite(u api.Tape, reg, v int) api.Tape {
	w := remainder(v, 65536)
	switch {
	case reg == 0:
		u.Enable = bit(w, 64)
		if u.Left == 0 && bit(w, 1) {
			u.Command = []int{0, 1, 2, 3, 4, 5, 6, 0}[w%16/2]
			u.Error, u.Mark, u.End = false, false, false
			if u.Command > 0 {
				u.Ready = false
				u.Left = 16
			}
		}
	case u.Left > 0:
	case reg == 2:
		u.Count = w
	case reg == 4:
		u.Addr = w
	}
	return u
}

// checkWrite compares Write with wantWrite.
func checkWrite(t *testing.T, u api.Tape, reg, v int) {
	t.Helper()
	got, ok := tape.Write(u, reg, v)
	if want := wantWrite(u, reg, v); !ok || !same(got, want) || !tape.Right(got) {
		t.Fatalf("Write of %d to %d of %s: %s, %v, want %s", v, reg, show(u), show(got), ok, show(want))
	}
}

// written has values that are written to registers, besides all words.
var written = slices.Concat(upTo(-20, 20), []int{-129, -128, -127, -65, -64, -63, 62, 63, 64, 65, 66, 67, 70, 71, 73, 75, 77, 78, 79, 80, 81, 126, 127, 128, 129, 130, 135, 143, 191, 192, 193, 255, 256, 257, 511, 512, 513, 769, 32766, 32767, 32768, 32769, 32775, 65533, 65534, 65535}, farInts)

func TestWriteOfAllUnits(t *testing.T) {
	for i, u := range validUnits() {
		for _, reg := range []int{0, 2, 4} {
			for j, v := range written {
				// A third of all pairs is enough, since neighbouring units differ only in the ticks that are left.
				if (i+j)%3 == 0 {
					checkWrite(t, u, reg, v)
				}
			}
		}
	}
}

func TestWriteOfAllWords(t *testing.T) {
	for _, u := range []api.Tape{idle(nil, 0, 9, 8), with(idle(reel(2, 0, 1), 1, 0, 8), flags{true, true, true, true}), with(busy(reel(2, 0, 1), 2, 2, 9, 8, 7), flags{false, true, false, true})} {
		for _, reg := range []int{0, 2, 4} {
			for v := range 65536 {
				checkWrite(t, u, reg, v)
			}
		}
	}
}

func TestWriteOfTheStatusByHand(t *testing.T) {
	l := []string{"ab", "", "c"}
	all := flags{true, true, true, true}
	for _, c := range []struct {
		u    api.Tape
		v    int
		want api.Tape
	}{
		// Without bit 0 only Enable is taken.
		{idle(l, 1, 5, 4), 0, api.Tape{Records: l, Pos: 1, Ready: true, Count: 5, Addr: 4}},
		{idle(l, 1, 5, 4), 65534, api.Tape{Records: l, Pos: 1, Ready: true, Count: 5, Addr: 4, Enable: true}},
		{idle(l, 1, 5, 4), 2, api.Tape{Records: l, Pos: 1, Ready: true, Count: 5, Addr: 4}},
		{with(idle(l, 1, 5, 4), all), 6, api.Tape{Records: l, Pos: 1, Ready: true, Count: 5, Addr: 4, Error: true, Mark: true, End: true}},
		{api.Tape{Records: l, Ready: true, Command: 3, Error: true}, 64, api.Tape{Records: l, Ready: true, Command: 3, Error: true, Enable: true}},
		// Bit 0 begins a command.
		{idle(l, 1, 5, 4), 3, api.Tape{Records: l, Pos: 1, Count: 5, Addr: 4, Command: 1, Left: 16}},
		{idle(l, 1, 5, 4), 5, api.Tape{Records: l, Pos: 1, Count: 5, Addr: 4, Command: 2, Left: 16}},
		{idle(l, 1, 5, 4), 7, api.Tape{Records: l, Pos: 1, Count: 5, Addr: 4, Command: 3, Left: 16}},
		{idle(l, 1, 5, 4), 9, api.Tape{Records: l, Pos: 1, Count: 5, Addr: 4, Command: 4, Left: 16}},
		{idle(l, 1, 5, 4), 75, api.Tape{Records: l, Pos: 1, Count: 5, Addr: 4, Command: 5, Left: 16, Enable: true}},
		{idle(l, 1, 5, 4), 13, api.Tape{Records: l, Pos: 1, Count: 5, Addr: 4, Command: 6, Left: 16}},
		{idle(l, 1, 5, 4), 65535 - 4, api.Tape{Records: l, Pos: 1, Count: 5, Addr: 4, Command: 5, Left: 16, Enable: true}},
		{idle(l, 1, 5, 4), -3, api.Tape{Records: l, Pos: 1, Count: 5, Addr: 4, Command: 6, Left: 16, Enable: true}},
		{idle(l, 1, 5, 4), 65536 + 3, api.Tape{Records: l, Pos: 1, Count: 5, Addr: 4, Command: 1, Left: 16}},
		{with(idle(l, 1, 5, 4), all), 3, api.Tape{Records: l, Pos: 1, Count: 5, Addr: 4, Command: 1, Left: 16}},
		// The command 0, which 7 is as well, leaves the unit ready.
		{with(idle(l, 1, 5, 4), all), 1, api.Tape{Records: l, Pos: 1, Ready: true, Count: 5, Addr: 4}},
		{api.Tape{Records: l, Ready: true, Command: 3, Error: true}, 65, api.Tape{Records: l, Ready: true, Enable: true}},
		{api.Tape{Records: l, Ready: true, Command: 3, Mark: true}, 15, api.Tape{Records: l, Ready: true}},
		{api.Tape{Records: l, Ready: true, Command: 3, End: true}, -1, api.Tape{Records: l, Ready: true, Enable: true}},
		{api.Tape{Records: l, Ready: true, Command: 3, End: true}, 65535, api.Tape{Records: l, Ready: true, Enable: true}},
		{api.Tape{Records: l, Ready: true, Command: 3, End: true}, 16 + 1, api.Tape{Records: l, Ready: true}},
		// While a command is in progress only Enable is taken.
		{busy(l, 1, 1, 5, 4, 16), 5, api.Tape{Records: l, Pos: 1, Count: 5, Addr: 4, Command: 1, Left: 16}},
		{busy(l, 1, 1, 5, 4, 3), 65 + 4, api.Tape{Records: l, Pos: 1, Count: 5, Addr: 4, Command: 1, Left: 3, Enable: true}},
		{with(busy(l, 1, 1, 5, 4, 1), all), 1, api.Tape{Records: l, Pos: 1, Count: 5, Addr: 4, Command: 1, Left: 1, Error: true, Mark: true, End: true}},
		{with(busy(l, 1, 0, 5, 4, 1), all), 64 + 3, api.Tape{Records: l, Pos: 1, Count: 5, Addr: 4, Left: 1, Enable: true, Error: true, Mark: true, End: true}},
	} {
		if got, ok := tape.Write(c.u, 0, c.v); !ok || !same(got, c.want) {
			t.Errorf("Write of %d to the status of %s: %s, %v", c.v, show(c.u), show(got), ok)
		}
	}
}

func TestWriteOfTheOtherRegistersByHand(t *testing.T) {
	all := flags{true, true, true, true}
	for _, c := range []struct{ v, want int }{{0, 0}, {1, 1}, {2, 2}, {255, 255}, {32768, 32768}, {65535, 65535}, {65536, 0}, {65537, 1}, {-1, 65535}, {-65536, 0}, {-65537, 65535}, {1 << 40, 0}, {1<<40 + 77, 77}, {math.MaxInt, 65535}, {math.MinInt, 0}, {math.MinInt + 9, 9}} {
		for _, f := range []flags{{}, all} {
			ready, inProgress := with(idle(reel(1, 2), 1, 5, 4), f), with(busy(reel(1, 2), 1, 2, 5, 4, 3), f)
			if got, ok := tape.Write(ready, 2, c.v); !ok || !same(got, with(idle(reel(1, 2), 1, c.want, 4), f)) {
				t.Errorf("Write of %d to the count: %s, %v", c.v, show(got), ok)
			}
			if got, ok := tape.Write(ready, 4, c.v); !ok || !same(got, with(idle(reel(1, 2), 1, 5, c.want), f)) {
				t.Errorf("Write of %d to the address: %s, %v", c.v, show(got), ok)
			}
			for _, reg := range []int{2, 4} {
				if got, ok := tape.Write(inProgress, reg, c.v); !ok || !same(got, inProgress) {
					t.Errorf("Write of %d to %d while a command is in progress: %s, %v", c.v, reg, show(got), ok)
				}
			}
		}
	}
}

func TestWriteOfNoRegister(t *testing.T) {
	for _, u := range []api.Tape{idle(nil, 0, 9, 8), with(idle(reel(2, 0, 1), 3, 65535, 65535), flags{true, true, true, true}), busy(reel(2, 0, 1), 1, 3, 9, 8, 7), idle(fullReel(), 64, 0, 0)} {
		for _, reg := range noRegisters() {
			for _, v := range []int{0, 1, 3, 64, 67, 65535, 65536, -1, math.MinInt, math.MaxInt} {
				if got, ok := tape.Write(u, reg, v); ok || !same(got, u) {
					t.Fatalf("Write of %d to %d of %s: %s, %v", v, reg, show(u), show(got), ok)
				}
			}
		}
	}
	for _, u := range validUnits() {
		for _, reg := range []int{-2, 1, 3, 5, 6} {
			if got, ok := tape.Write(u, reg, 3); ok || !same(got, u) {
				t.Fatalf("Write to %d of %s: %s, %v", reg, show(u), show(got), ok)
			}
		}
	}
}

func TestWriteAfterACommand(t *testing.T) {
	// After an error, a mark and an end, the next command clears them; registers alone do not.
	u, mem := idle([]string{"ab", ""}, 0, 1, 0), words(256)
	for _, want := range []int{2 + 128 + 32768, 2 + 128 + 256, 2 + 128 + 512 + 32768} {
		u = began(t, u, 0, 1)
		u, mem, _ = ticks(u, mem, nil, 16)
		for _, reg := range []int{2, 4} {
			u, _ = tape.Write(u, reg, 1)
		}
		if got, _ := tape.Read(u, 0); got != want {
			t.Errorf("status %d, want %d", got, want)
		}
		enabled, _ := tape.Write(u, 0, 64+2*5)
		if got, _ := tape.Read(enabled, 0); got != want+64 {
			t.Errorf("status %d after Write of Enable, want %d", got, want+64)
		}
		cleared, _ := tape.Write(u, 0, 1)
		if got, _ := tape.Read(cleared, 0); got != 128 {
			t.Errorf("status %d after Write of no command", got)
		}
	}
}

// began returns the unit that has begun a command. The status that is written is that of the command and of the other bits.
func began(t *testing.T, u api.Tape, other, command int) api.Tape {
	t.Helper()
	u, ok := tape.Write(u, 0, other+2*command+1)
	if !ok || u.Ready || u.Error || u.Mark || u.End || u.Left != 16 || u.Command != command {
		t.Fatalf("no command has begun: %s, %v", show(u), ok)
	}
	return u
}

// loaded returns the unit whose count and address have been written.
func loaded(t *testing.T, u api.Tape, count, addr int) api.Tape {
	t.Helper()
	u, a := tape.Write(u, 2, count)
	u, b := tape.Write(u, 4, addr)
	if !a || !b {
		t.Fatalf("the registers are not written: %s", show(u))
	}
	return u
}

// ticks returns the unit, the memory and the bad addresses after some ticks.
func ticks(u api.Tape, mem, bad []int, n int) (api.Tape, []int, []int) {
	for range n {
		u, mem, bad = tape.Tick(u, mem, bad)
	}
	return u, mem, bad
}

// P17.5: Requests, Accept.

func TestRequests(t *testing.T) {
	for _, u := range validUnits() {
		got := tape.Requests(u)
		if u.Enable && u.Ready {
			if len(got) != 1 || got[0].Priority != 5 || got[0].Vector != 164 {
				t.Fatalf("requests %v of %s", got, show(u))
			}
		} else if len(got) != 0 {
			t.Fatalf("requests %v of %s", got, show(u))
		}
	}
}

func TestAccept(t *testing.T) {
	vectors := slices.Concat(upTo(-300, 600), farInts)
	all := flags{true, true, true, true}
	for _, u := range []api.Tape{with(idle(reel(2, 0, 1), 3, 9, 8), all), with(idle(nil, 0, 9, 8), flags{enable: true}), with(idle(reel(1), 1, 9, 8), flags{wrong: true}), with(busy(fullReel(), 64, 3, 9, 8, 7), all)} {
		for _, vector := range vectors {
			want := u
			if vector == 164 {
				want.Enable = false
			}
			if got := tape.Accept(u, vector); !same(got, want) {
				t.Fatalf("Accept of %d of %s: %s", vector, show(u), show(got))
			}
		}
	}
	for _, u := range validUnits() {
		got := tape.Accept(u, 164)
		if want := with(u, flags{false, u.Error, u.Mark, u.End}); !same(got, want) || len(tape.Requests(got)) != 0 || !tape.Right(got) {
			t.Fatalf("Accept of %s: %s", show(u), show(got))
		}
		if got := tape.Accept(u, 160); !same(got, u) {
			t.Fatalf("Accept of 160 of %s: %s", show(u), show(got))
		}
	}
}

func TestInterruptOfACommand(t *testing.T) {
	// The interrupt is requested when the command ends, be it with an error or without.
	for command := 1; command <= 6; command++ {
		for pos := range 4 {
			u, mem, bad := began(t, idle(reel(2, 0, 1), pos, 1, 4), 64, command), words(256), []int(nil)
			for n := range 16 {
				if l := tape.Requests(u); len(l) != 0 {
					t.Errorf("requests %v after %d ticks", l, n)
				}
				u, mem, bad = tape.Tick(u, mem, bad)
			}
			if l := tape.Requests(u); len(l) != 1 || l[0] != (api.Request{Priority: 5, Vector: 164}) {
				t.Errorf("requests %v of %s", l, show(u))
			}
			u = tape.Accept(u, 164)
			u, _, _ = ticks(u, mem, bad, 17)
			if l := tape.Requests(u); len(l) != 0 {
				t.Errorf("requests %v after Accept", l)
			}
			u, _ = tape.Write(u, 0, 64)
			if l := tape.Requests(u); len(l) != 1 {
				t.Errorf("requests %v after Write of 64", l)
			}
		}
	}
}

// P17.6: Reset, Mount.

func TestReset(t *testing.T) {
	for _, u := range validUnits() {
		r := tape.Reset(u)
		want := idle(u.Records, u.Pos, u.Count, u.Addr)
		if !same(r, want) || !tape.Right(r) {
			t.Fatalf("Reset of %s: %s", show(u), show(r))
		}
		if again := tape.Reset(r); !same(again, want) {
			t.Fatalf("Reset twice of %s: %s", show(u), show(again))
		}
	}
}

func TestMount(t *testing.T) {
	for _, u := range validUnits() {
		m := tape.Mount(u)
		want := u
		want.Pos = 0
		if u.Left > 0 {
			want.Left, want.Ready, want.Error = 0, true, true
		}
		if !same(m, want) || !tape.Right(m) {
			t.Fatalf("Mount of %s: %s", show(u), show(m))
		}
		if again := tape.Mount(m); !same(again, want) {
			t.Fatalf("Mount twice of %s: %s", show(u), show(again))
		}
	}
}

func TestResetAndMountByHand(t *testing.T) {
	l := []string{"ab", "", "c"}
	all := flags{true, true, true, true}
	for _, c := range []struct{ u, reset, mount api.Tape }{
		{idle(l, 2, 5, 4), idle(l, 2, 5, 4), idle(l, 0, 5, 4)},
		{with(idle(l, 3, 5, 4), all), idle(l, 3, 5, 4), with(idle(l, 0, 5, 4), all)},
		{api.Tape{Records: l, Pos: 1, Ready: true, Command: 4}, idle(l, 1, 0, 0), api.Tape{Records: l, Ready: true, Command: 4}},
		{busy(l, 2, 2, 5, 4, 16), idle(l, 2, 5, 4), api.Tape{Records: l, Ready: true, Error: true, Command: 2, Count: 5, Addr: 4}},
		{busy(l, 0, 6, 5, 4, 1), idle(l, 0, 5, 4), api.Tape{Records: l, Ready: true, Error: true, Command: 6, Count: 5, Addr: 4}},
		{with(busy(l, 1, 1, 5, 4, 7), flags{enable: true, mark: true}), idle(l, 1, 5, 4), api.Tape{Records: l, Ready: true, Error: true, Enable: true, Mark: true, Command: 1, Count: 5, Addr: 4}},
		{with(busy(l, 1, 1, 5, 4, 7), flags{end: true}), idle(l, 1, 5, 4), api.Tape{Records: l, Ready: true, Error: true, End: true, Command: 1, Count: 5, Addr: 4}},
	} {
		if got := tape.Reset(c.u); !same(got, c.reset) {
			t.Errorf("Reset of %s: %s", show(c.u), show(got))
		}
		if got := tape.Mount(c.u); !same(got, c.mount) {
			t.Errorf("Mount of %s: %s", show(c.u), show(got))
		}
	}
}

func TestResetAndMountEndACommand(t *testing.T) {
	// After any number of ticks of a command that would change memory, the tape or the head.
	for command := 1; command <= 6; command++ {
		for n := range 16 {
			mem := words(256)
			u, mem, _ := ticks(began(t, idle(reel(2, 0, 1), 1, 2, 4), 0, command), mem, nil, n)
			for _, ended := range []api.Tape{tape.Reset(u), tape.Mount(u)} {
				after, mem2, bad := ticks(ended, mem, nil, 20)
				if !same(after, ended) || !slices.Equal(mem2, words(256)) || len(bad) != 0 || !slices.Equal(after.Records, reel(2, 0, 1)) {
					t.Fatalf("the command %d goes on: %s", command, show(after))
				}
				// The next command can begin.
				next, _, _ := ticks(began(t, ended, 0, 3), mem, nil, 16)
				if next.Pos != ended.Pos+1 || next.Error {
					t.Fatalf("the command after %d: %s", command, show(next))
				}
			}
		}
	}
}

// The chapter's examples.

func TestExamples(t *testing.T) {
	u, e := tape.New([]string{"ab", "", "c"})
	mem, f := memory.New(256)
	if e != api.OK || f != api.OK {
		t.Fatal(e, f)
	}
	u, m, bad := ticks(began(t, loaded(t, u, 5, 10), 0, 1), mem, nil, 16)
	if s, _ := memory.Bytes(m, 10, 2); s != "ab" || u.Count != 3 || u.Pos != 1 || !u.Ready {
		t.Errorf("example 1: %q, %s", s, show(u))
	}
	u, m, bad = ticks(began(t, u, 0, 1), m, bad, 16)
	if !u.Mark || u.Pos != 2 {
		t.Errorf("example 1: %s", show(u))
	}
	u, m, bad = ticks(began(t, u, 0, 1), m, bad, 16)
	if s, _ := memory.Bytes(m, 9, 4); s != "\x00cb\x00" || u.Mark || u.Pos != 3 || u.Count != 2 {
		t.Errorf("example 1: %q, %s", s, show(u))
	}
	u, _, _ = ticks(began(t, u, 0, 1), m, bad, 16)
	if !u.Error || !u.End || u.Pos != 3 {
		t.Errorf("example 1: %s", show(u))
	}
	u, m, _ = ticks(began(t, idle([]string{"ab", "", "c"}, 0, 1, 10), 0, 1), mem, nil, 16)
	if s, _ := memory.Bytes(m, 9, 4); s != "\x00a\x00\x00" || !u.Error || u.Pos != 1 || u.Count != 0 {
		t.Errorf("example 2: %q, %s", s, show(u))
	}
	u, _, _ = ticks(began(t, idle([]string{"ab", "", "c"}, 0, 2, 10), 0, 2), mem, nil, 16)
	if len(u.Records) != 1 || u.Records[0] != "\x00\x00" || u.Pos != 1 || u.Error {
		t.Errorf("example 3: %s", show(u))
	}
	u, ok := tape.Write(idle([]string{"ab", "", "c"}, 0, 2, 10), 0, 1+2*7)
	if !ok || u.Command != 0 || !u.Ready || u.Left != 0 {
		t.Errorf("example 4: %s", show(u))
	}
}
