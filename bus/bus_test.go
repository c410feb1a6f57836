package bus_test

import (
	"math"
	"reflect"
	"slices"
	"strings"
	"testing"

	"emulator/api"
	"emulator/bus"
	"emulator/memory"
)

// ioBase is the first physical address of the registers, physBytes the number of physical addresses.
const (
	ioBase    = 0x3E000
	physBytes = 0x40000
)

// farInts has integers far from words and vectors, many of which become one of them when they are cut to fewer bits.
var farInts = []int{math.MinInt, math.MinInt + 1, math.MinInt + 64, math.MinInt + 160, math.MinInt + 164, -1 << 62, -1<<62 + 67, -1 << 40, -1 << 32, -1<<32 + 64, -1<<32 + 160, -1<<32 + 164, -1 << 31, -1<<31 + 1, -65537, -65536, -65535, -65536 + 64, -65536 + 160, -65536 + 164, -32769, -32768, -513, -512, -257, -256, -255, -192, -96, -92,
	65536, 65537, 65536 + 64, 65536 + 160, 65536 + 164, 131072, 1<<31 - 1, 1 << 31, 1<<31 + 2, 1<<32 - 1, 1 << 32, 1<<32 + 1, 1<<32 + 64, 1<<32 + 160, 1<<32 + 164, 1 << 40, 1<<40 + 67, 1 << 61, 1 << 62, 1<<62 + 64, 1<<62 + 164, math.MaxInt - 255, math.MaxInt - 91, math.MaxInt - 2, math.MaxInt - 1, math.MaxInt}

var bools = []bool{false, true}

// upTo returns the numbers from a first to a last one.
func upTo(first, last int) []int {
	var l []int
	for n := first; n <= last; n++ {
		l = append(l, n)
	}
	return l
}

// remainder returns n modulo d, from 0 on.
func remainder(n, d int) int {
	n %= d
	if n < 0 {
		n += d
	}
	return n
}

// text returns n bytes of all values. Texts of different kinds differ, if they have at least one byte.
func text(n, kind int) string {
	b := make([]byte, n)
	for i := range b {
		b[i] = byte(37*i + 101*kind + 200)
	}
	return string(b)
}

// words returns a memory whose words all differ from their neighbours.
func words(size int) []int {
	l := make([]int, size/2)
	for i := range l {
		l[i] = (i*40503 + 7) % 65536
	}
	return l
}

// sectors returns n sectors that all differ.
func sectors(n int) []string {
	var l []string
	for i := range n {
		l = append(l, text(128, i))
	}
	return l
}

// quiet returns a machine whose devices do nothing but that the clock counts.
func quiet(size, lines int) api.Machine {
	m := api.Machine{Mem: words(size), Clock: api.Clock{Period: 100, Left: 100}}
	for range lines {
		m.Lines = append(m.Lines, api.Line{TxReady: true})
	}
	m.Disk = api.Disk{Drive: api.Drive{Sectors: sectors(4)}, Ready: true}
	m.Tape = api.Tape{Records: []string{"ab", "", text(70, 9)}, Ready: true}
	return m
}

// inUse returns a machine whose processor, unit and devices are all in use, no two of them with the same values.
func inUse(size, lines int) api.Machine {
	m := quiet(size, lines)
	m.Cpu = api.Cpu{R: [6]int{1, 2, 3, 4, 5, 6}, SP: [2]int{200, 180}, PC: 34, PSW: 0x40E5}
	m.Bad = []int{6, 40, size - 2}
	m.Mmu = pagesOf(3)
	m.Clock = api.Clock{Enable: true, Ready: true, Period: 60, Left: 7}
	for i := range m.Lines {
		m.Lines[i] = api.Line{RxEnable: true, RxReady: true, Overrun: i%2 == 0, RxData: 65 + i, TxEnable: true, TxData: 97 + i, TxLeft: 1 + i%4, Out: text(5+i%8, i)}
	}
	m.Disk = api.Disk{Drive: api.Drive{Sectors: sectors(5), Bad: []int{2, 4}}, Enable: true, Error: true, Command: 1, Words: 70, Addr: 20, Start: 1, Left: 3}
	m.Tape = api.Tape{Records: []string{"ab", "", text(70, 9)}, Pos: 2, Enable: true, Error: true, Mark: true, End: true, Command: 2, Count: 9, Addr: 31, Left: 11}
	m.Now, m.Power, m.PowerTrap, m.Waiting = 12345, 77, true, true
	return m
}

// pagesOf returns a memory management unit no two pages of which are equal.
func pagesOf(kind int) api.Mmu {
	u := api.Mmu{On: true, Status: kind % 4, Addr: 1000*kind + 1}
	for mode := range 2 {
		for page := range 8 {
			n := 8*mode + page
			u.Pages[mode][page] = api.Page{Base: 200*n + kind, Length: 3*n + kind, Access: n % 3, Written: n%5 == 1}
		}
	}
	return u
}

// requesting returns a machine whose devices all have all their requests.
func requesting(size, lines int) api.Machine {
	m := inUse(size, lines)
	for i := range m.Lines {
		m.Lines[i].TxReady, m.Lines[i].TxLeft = true, 0
	}
	m.Disk.Ready, m.Disk.Left = true, 0
	m.Tape.Ready, m.Tape.Left = true, 0
	return m
}

// machines returns valid machines with so many lines.
func machines(lines int) []api.Machine {
	return []api.Machine{quiet(256, lines), inUse(256, lines), requesting(320, lines), inUse(4096, lines)}
}

// kept returns a copy of a machine, whose empty lists are nil.
func kept(m api.Machine) api.Machine {
	m.Mem = append([]int(nil), m.Mem...)
	m.Bad = append([]int(nil), m.Bad...)
	m.Lines = append([]api.Line(nil), m.Lines...)
	m.Disk.Drive.Sectors = append([]string(nil), m.Disk.Drive.Sectors...)
	m.Disk.Drive.Bad = append([]int(nil), m.Disk.Drive.Bad...)
	m.Tape.Records = append([]string(nil), m.Tape.Records...)
	return m
}

// same reports whether two machines are equal in all fields.
func same(a, b api.Machine) bool {
	if !slices.Equal(a.Mem, b.Mem) || !slices.Equal(a.Bad, b.Bad) || !slices.Equal(a.Lines, b.Lines) {
		return false
	}
	if !slices.Equal(a.Disk.Drive.Sectors, b.Disk.Drive.Sectors) || !slices.Equal(a.Disk.Drive.Bad, b.Disk.Drive.Bad) || !slices.Equal(a.Tape.Records, b.Tape.Records) {
		return false
	}
	k, l, x, y := a.Disk, b.Disk, a.Tape, b.Tape
	return a.Cpu == b.Cpu && a.Mmu == b.Mmu && a.Clock == b.Clock &&
		k.Enable == l.Enable && k.Ready == l.Ready && k.Error == l.Error && k.Command == l.Command && k.Words == l.Words && k.Addr == l.Addr && k.Start == l.Start && k.Left == l.Left &&
		x.Pos == y.Pos && x.Enable == y.Enable && x.Ready == y.Ready && x.Error == y.Error && x.Mark == y.Mark && x.End == y.End && x.Command == y.Command && x.Count == y.Count && x.Addr == y.Addr && x.Left == y.Left &&
		a.Now == b.Now && a.Halted == b.Halted && a.Waiting == b.Waiting && a.Power == b.Power && a.PowerTrap == b.PowerTrap
}

// differences returns the names of the fields of two machines that differ.
func differences(a, b api.Machine) string {
	a, b = kept(a), kept(b)
	fields := map[string]any{}
	eachField(reflect.ValueOf(&a).Elem(), "", func(name string, v reflect.Value) { fields[name] = v.Interface() })
	var l []string
	eachField(reflect.ValueOf(&b).Elem(), "", func(name string, v reflect.Value) {
		if !reflect.DeepEqual(fields[name], v.Interface()) {
			l = append(l, name)
		}
	})
	return strings.Join(l, ", ")
}

// eachField calls a function for all fields of a struct, and for those of its structs instead of these.
func eachField(v reflect.Value, name string, do func(name string, v reflect.Value)) {
	if v.Kind() != reflect.Struct {
		do(name, v)
		return
	}
	for i := range v.NumField() {
		eachField(v.Field(i), name+"."+v.Type().Field(i).Name, do)
	}
}

// change changes a number, a text or a bool; of a list or an array, that element of its elements which is at an index, or drops the last one if there is none at it.
func change(v reflect.Value, index int) {
	switch v.Kind() {
	case reflect.Int:
		v.SetInt(v.Int() + 1)
	case reflect.String:
		v.SetString(v.String() + "x")
	case reflect.Bool:
		v.SetBool(!v.Bool())
	case reflect.Array, reflect.Slice:
		if index < v.Len() {
			change(v.Index(index), index)
		} else {
			v.Set(v.Slice(0, v.Len()-1))
		}
	case reflect.Struct:
		change(v.Field(index%v.NumField()), index)
	}
}

func TestHelpers(t *testing.T) {
	fields := 0
	m := inUse(256, 2)
	eachField(reflect.ValueOf(&m).Elem(), "", func(name string, v reflect.Value) {
		fields++
		indexes := []int{0, 1}
		if v.Kind() == reflect.Slice {
			indexes = append(indexes, v.Len())
		}
		for _, index := range indexes {
			if !same(m, inUse(256, 2)) || differences(m, inUse(256, 2)) != "" {
				t.Fatal("equal machines differ")
			}
			copied := kept(m)
			change(v, index)
			if same(m, copied) || differences(m, copied) != name {
				t.Errorf("a change of %s is not seen", name)
			}
			if !same(copied, inUse(256, 2)) {
				t.Errorf("a change of %s changes the copy", name)
			}
			m = copied
		}
	})
	if fields != 41 {
		t.Errorf("a machine has %d fields", fields)
	}
	a := quiet(256, 0)
	b := a
	b.Bad, b.Lines = []int{}, []api.Line{}
	if !same(a, b) || differences(a, b) != "" {
		t.Error("empty lists differ")
	}
	for _, k := range []struct{ n, low int }{{0, 0}, {65535, 65535}, {65536, 0}, {-1, 65535}, {-65536, 0}, {-65537, 65535}, {math.MinInt, 0}, {math.MinInt + 65, 65}, {math.MaxInt, 65535}} {
		if got := remainder(k.n, 65536); got != k.low {
			t.Errorf("%d modulo 65536 is %d", k.n, got)
		}
	}
	for _, size := range []int{256, 320, 4096, 32768} {
		if !memory.Right(words(size), nil) {
			t.Errorf("the memory of %d bytes is not valid", size)
		}
	}
	if api.IOBase != ioBase || api.PhysBytes != physBytes {
		t.Error("the addresses of the test are wrong")
	}
}

// P18.1: Right.

func TestRightOfValidMachines(t *testing.T) {
	for _, lines := range upTo(0, 4) {
		for i, m := range machines(lines) {
			if !bus.Right(m) {
				t.Errorf("machine %d with %d lines is not valid", i, lines)
			}
		}
	}
	for _, size := range []int{256, 320, 384, 1024, 32704, 32768} {
		if !bus.Right(quiet(size, 1)) || !bus.Right(inUse(size, 4)) {
			t.Errorf("a machine of %d bytes is not valid", size)
		}
	}
	m := quiet(256, 0)
	m.Bad, m.Lines, m.Tape.Records = []int{}, []api.Line{}, []string{}
	if !bus.Right(m) {
		t.Error("a machine with empty lists is not valid")
	}
}

func TestRightWithEveryNumberOfLines(t *testing.T) {
	for _, n := range slices.Concat(upTo(0, 40), []int{255, 256, 257, 260, 1000, 65536, 65540}) {
		for i, m := range []api.Machine{quiet(256, n), inUse(256, n), requesting(256, n)} {
			if got := bus.Right(m); got != (n <= 4) {
				t.Errorf("%v for machine %d with %d lines", got, i, n)
			}
		}
	}
}

func TestRightIgnoresTheRest(t *testing.T) {
	for _, n := range slices.Concat(upTo(-3, 3), []int{10000, 10001, 65535, 65536, 1 << 40, 1<<40 + 1}, farInts) {
		for _, on := range bools {
			m := inUse(256, 2)
			m.Cpu = api.Cpu{R: [6]int{n, n, n, n, n, n}, SP: [2]int{n, n}, PC: n, PSW: n}
			m.Now, m.Power = n, n
			m.Halted, m.Waiting, m.PowerTrap = on, !on, on
			if !bus.Right(m) {
				t.Errorf("not valid with %d", n)
			}
		}
	}
}

// spoiler makes a part of a machine with two lines at least invalid.
type spoiler struct {
	part, name string
	spoil      func(m *api.Machine)
}

// spoilers has such functions for every part of a machine.
func spoilers() []spoiler {
	l := []spoiler{
		{"memory", "no memory", func(m *api.Machine) { m.Mem = nil }},
		{"memory", "a small memory", func(m *api.Machine) { m.Mem, m.Bad = words(192), nil }},
		{"memory", "a memory of 258 bytes", func(m *api.Machine) { m.Mem = append(m.Mem, 0) }},
		{"memory", "a memory of 254 bytes", func(m *api.Machine) { m.Mem, m.Bad = m.Mem[1:], nil }},
		{"memory", "a large memory", func(m *api.Machine) { m.Mem = words(32768 + 64) }},
		{"memory", "a large word", func(m *api.Machine) { m.Mem[len(m.Mem)-1] = 65536 }},
		{"memory", "a negative word", func(m *api.Machine) { m.Mem[0] = -1 }},
		{"memory", "a negative bad address", func(m *api.Machine) { m.Bad = []int{-2} }},
		{"memory", "an odd bad address", func(m *api.Machine) { m.Bad = []int{2, 5} }},
		{"memory", "a bad address behind memory", func(m *api.Machine) { m.Bad = []int{2, 2 * len(m.Mem)} }},
		{"memory", "equal bad addresses", func(m *api.Machine) { m.Bad = []int{2, 2} }},
		{"memory", "descending bad addresses", func(m *api.Machine) { m.Bad = []int{4, 2} }},
		{"mmu", "a base", func(m *api.Machine) { m.Mmu.Pages[1][7].Base = 4096 }},
		{"mmu", "a negative base", func(m *api.Machine) { m.Mmu.Pages[0][0].Base = -1 }},
		{"mmu", "a length", func(m *api.Machine) { m.Mmu.Pages[0][7].Length = 129 }},
		{"mmu", "an access", func(m *api.Machine) { m.Mmu.Pages[1][0].Access = 3 }},
		{"mmu", "a fault", func(m *api.Machine) { m.Mmu.Status = 4 }},
		{"mmu", "a fault address", func(m *api.Machine) { m.Mmu.Addr = 65536 }},
		{"clock", "no period", func(m *api.Machine) { m.Clock.Period = 0 }},
		{"clock", "a long period", func(m *api.Machine) { m.Clock.Period = 65536 }},
		{"clock", "no ticks left", func(m *api.Machine) { m.Clock.Left = 0 }},
		{"clock", "more ticks left than a period has", func(m *api.Machine) { m.Clock.Left = m.Clock.Period + 1 }},
		{"disk", "no sectors", func(m *api.Machine) { m.Disk.Drive = api.Drive{} }},
		{"disk", "257 sectors", func(m *api.Machine) { m.Disk.Drive.Sectors = sectors(257) }},
		{"disk", "a short sector", func(m *api.Machine) { m.Disk.Drive.Sectors[1] = text(127, 1) }},
		{"disk", "a bad sector behind the last one", func(m *api.Machine) { m.Disk.Drive.Bad = []int{len(m.Disk.Drive.Sectors)} }},
		{"disk", "a command of the disk", func(m *api.Machine) { m.Disk.Command = 4 }},
		{"disk", "an odd address of the disk", func(m *api.Machine) { m.Disk.Addr = 21 }},
		{"disk", "words of the disk", func(m *api.Machine) { m.Disk.Words = 65536 }},
		{"disk", "a sector of the disk", func(m *api.Machine) { m.Disk.Start = -1 }},
		{"disk", "a disk that is ready and busy", func(m *api.Machine) { m.Disk.Ready = !m.Disk.Ready }},
		{"disk", "a disk with 9 ticks left", func(m *api.Machine) { m.Disk.Left, m.Disk.Ready = 9, false }},
		{"disk", "a busy disk without words", func(m *api.Machine) { m.Disk.Left, m.Disk.Ready, m.Disk.Words = 3, false, 0 }},
		{"tape", "65 records", func(m *api.Machine) { m.Tape.Records = make([]string, 65) }},
		{"tape", "a long record", func(m *api.Machine) { m.Tape.Records[2] = text(513, 0) }},
		{"tape", "a head behind the tape", func(m *api.Machine) { m.Tape.Pos = 4 }},
		{"tape", "a command of the tape", func(m *api.Machine) { m.Tape.Command = 7 }},
		{"tape", "a count", func(m *api.Machine) { m.Tape.Count = 65536 }},
		{"tape", "an address of the tape", func(m *api.Machine) { m.Tape.Addr = -1 }},
		{"tape", "a tape that is ready and busy", func(m *api.Machine) { m.Tape.Ready = !m.Tape.Ready }},
		{"tape", "a tape with 17 ticks left", func(m *api.Machine) { m.Tape.Left, m.Tape.Ready = 17, false }},
	}
	for _, s := range lineSpoilers {
		l = append(l, spoiler{"first line", s.name + " of the first line", func(m *api.Machine) { s.spoil(&m.Lines[0]) }})
		l = append(l, spoiler{"last line", s.name + " of the last line", func(m *api.Machine) { s.spoil(&m.Lines[len(m.Lines)-1]) }})
	}
	return l
}

// lineSpoilers has functions that make a line invalid.
var lineSpoilers = []struct {
	name  string
	spoil func(l *api.Line)
}{
	{"the received byte", func(l *api.Line) { l.RxData = 256 }},
	{"the sent byte", func(l *api.Line) { l.TxData = -1 }},
	{"the ticks left", func(l *api.Line) { l.TxLeft, l.TxReady = 5, false }},
	{"the ready bit", func(l *api.Line) { l.TxReady = !l.TxReady }},
	{"the output", func(l *api.Line) { l.Out = strings.Repeat("x", 4097) }},
}

func TestRightWithInvalidParts(t *testing.T) {
	all := spoilers()
	for _, lines := range []int{2, 4} {
		for _, build := range []func(size, lines int) api.Machine{quiet, inUse, requesting} {
			for i, a := range all {
				m := build(256, lines)
				a.spoil(&m)
				if bus.Right(m) {
					t.Errorf("valid with %s", a.name)
				}
				for _, b := range all[i+1:] {
					// The same part may be valid again after two changes of it: only different parts are spoilt together.
					if a.part == b.part {
						continue
					}
					x := build(256, lines)
					a.spoil(&x)
					b.spoil(&x)
					if bus.Right(x) {
						t.Errorf("valid with %s and %s", a.name, b.name)
					}
				}
			}
		}
	}
	m := inUse(256, 2)
	spoilt := map[string]bool{}
	for _, s := range all {
		if !spoilt[s.part] {
			spoilt[s.part] = true
			s.spoil(&m)
		}
	}
	if len(spoilt) != 7 || bus.Right(m) || bus.Right(api.Machine{}) {
		t.Error("valid with all parts invalid")
	}
}

func TestRightWithEveryInvalidLine(t *testing.T) {
	for _, lines := range upTo(1, 4) {
		for i := range lines {
			for _, s := range lineSpoilers {
				m := inUse(256, lines)
				s.spoil(&m.Lines[i])
				if bus.Right(m) {
					t.Errorf("valid with %s of line %d of %d", s.name, i, lines)
				}
			}
		}
	}
	for _, s := range lineSpoilers {
		m := inUse(256, 4)
		for i := range m.Lines {
			s.spoil(&m.Lines[i])
		}
		if bus.Right(m) {
			t.Errorf("valid with %s of all lines", s.name)
		}
	}
}

// P18.5: Requests, Accept, Reset.

func TestRequestsInAllWays(t *testing.T) {
	for _, lines := range upTo(0, 4) {
		for ways := range 1 << (3 + 2*lines) {
			has := func(bit int) bool { return ways>>bit&1 == 1 }
			m := quiet(256, lines)
			var want []api.Request
			if has(0) {
				m.Clock.Enable, m.Clock.Ready = true, true
				want = append(want, api.Request{Priority: 6, Vector: 64})
			}
			if has(1) {
				m.Disk.Enable = true
				want = append(want, api.Request{Priority: 5, Vector: 160})
			}
			if has(2) {
				m.Tape.Enable = true
				want = append(want, api.Request{Priority: 5, Vector: 164})
			}
			for i := range lines {
				if has(3 + 2*i) {
					m.Lines[i].RxEnable, m.Lines[i].RxReady = true, true
					want = append(want, api.Request{Priority: 4, Vector: []int{128, 136, 144, 152}[i]})
				}
				if has(4 + 2*i) {
					m.Lines[i].TxEnable = true
					want = append(want, api.Request{Priority: 4, Vector: []int{132, 140, 148, 156}[i]})
				}
			}
			if got := bus.Requests(m); !slices.Equal(got, want) {
				t.Fatalf("%d lines, %b: %v, want %v", lines, ways, got, want)
			}
		}
	}
}

func TestRequestsByHand(t *testing.T) {
	want := []api.Request{{Priority: 6, Vector: 64}, {Priority: 5, Vector: 160}, {Priority: 5, Vector: 164}, {Priority: 4, Vector: 128}, {Priority: 4, Vector: 132}, {Priority: 4, Vector: 136}, {Priority: 4, Vector: 140}, {Priority: 4, Vector: 144}, {Priority: 4, Vector: 148}, {Priority: 4, Vector: 152}, {Priority: 4, Vector: 156}}
	for lines := range 5 {
		if got := bus.Requests(requesting(256, lines)); !slices.Equal(got, want[:3+2*lines]) {
			t.Errorf("%d lines: %v", lines, got)
		}
		if got := bus.Requests(quiet(256, lines)); len(got) != 0 {
			t.Errorf("%d lines, all quiet: %v", lines, got)
		}
	}
	// Devices that are busy, or only enabled, or only ready, have no requests; the clock and the receivers are both.
	if got := bus.Requests(inUse(256, 2)); !slices.Equal(got, []api.Request{{Priority: 6, Vector: 64}, {Priority: 4, Vector: 128}, {Priority: 4, Vector: 136}}) {
		t.Errorf("in use: %v", got)
	}
	m := requesting(256, 1)
	m.Clock.Ready, m.Lines[0].RxReady, m.Lines[0].TxEnable, m.Disk.Enable, m.Tape.Enable = false, false, false, false, false
	if got := bus.Requests(m); len(got) != 0 {
		t.Errorf("only enabled or ready: %v", got)
	}
}

func TestAccept(t *testing.T) {
	for _, lines := range upTo(0, 4) {
		for i, m := range append(machines(lines), requesting(256, lines)) {
			for _, vector := range slices.Concat(upTo(-300, 600), farInts) {
				want := kept(m)
				switch vector {
				case 64:
					want.Clock.Ready = false
				case 160:
					want.Disk.Enable = false
				case 164:
					want.Tape.Enable = false
				}
				if got := bus.Accept(m, vector); !same(got, want) {
					t.Fatalf("vector %d, machine %d: %s", vector, i, differences(got, want))
				}
			}
		}
	}
}

func TestAcceptedRequestsEnd(t *testing.T) {
	m := requesting(256, 1)
	for _, vector := range []int{164, 64, 160} {
		before := bus.Requests(m)
		m = bus.Accept(m, vector)
		want := slices.DeleteFunc(slices.Clone(before), func(q api.Request) bool { return q.Vector == vector })
		if got := bus.Requests(m); len(got) != len(before)-1 || !slices.Equal(got, want) {
			t.Errorf("after vector %d: %v", vector, got)
		}
	}
	// The requests of lines stay until their registers are used.
	for _, vector := range []int{128, 132} {
		m = bus.Accept(m, vector)
	}
	if got := bus.Requests(m); len(got) != 2 {
		t.Errorf("requests of the line: %v", got)
	}
}

func TestReset(t *testing.T) {
	for _, lines := range upTo(0, 4) {
		for i, m := range append(machines(lines), requesting(256, lines), inUse(32768, lines)) {
			want := kept(m)
			want.Mmu = api.Mmu{}
			want.Clock = api.Clock{Period: m.Clock.Period, Left: m.Clock.Period}
			for j, l := range m.Lines {
				want.Lines[j] = api.Line{RxData: l.RxData, TxData: l.TxData, TxReady: true, Out: l.Out}
			}
			want.Disk = api.Disk{Drive: m.Disk.Drive, Ready: true, Words: m.Disk.Words, Addr: m.Disk.Addr, Start: m.Disk.Start}
			want.Tape = api.Tape{Records: m.Tape.Records, Pos: m.Tape.Pos, Ready: true, Count: m.Tape.Count, Addr: m.Tape.Addr}
			got := bus.Reset(m)
			if !same(got, want) {
				t.Errorf("machine %d with %d lines: %s", i, lines, differences(got, want))
			}
			if !bus.Right(got) || len(bus.Requests(got)) != 0 || !same(bus.Reset(got), got) {
				t.Errorf("machine %d with %d lines is not reset", i, lines)
			}
		}
	}
}
