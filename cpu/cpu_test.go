package cpu_test

import (
	"math"
	"reflect"
	"slices"
	"strconv"
	"strings"
	"testing"

	"emulator/api"
	"emulator/bus"
	"emulator/cpu"
)

// ioBase is the first physical address of the registers; without memory management it is the virtual address ioPage.
const (
	ioBase = 0x3E000
	ioPage = 0xE000
)

const (
	kernel = 0
	user   = 1
)

// farInts has integers far from words, many of which become small ones when they are cut to fewer bits.
var farInts = []int{math.MinInt, math.MinInt + 1, math.MinInt + 64, math.MinInt + 65535, -1 << 62, -1<<62 + 67, -1 << 40, -1 << 32, -1<<32 + 64, -1 << 31, -1<<31 + 1, -131072, -65537, -65536, -65535, -65536 + 64, -32769, -32768, -257, -256,
	65536, 65537, 65536 + 64, 131071, 131072, 1<<31 - 1, 1 << 31, 1<<31 + 2, 1<<32 - 1, 1 << 32, 1<<32 + 1, 1<<32 + 64, 1 << 40, 1<<40 + 67, 1 << 61, 1 << 62, 1<<62 + 64, math.MaxInt - 65535, math.MaxInt - 2, math.MaxInt - 1, math.MaxInt}

var bools = []bool{false, true}

// upTo returns the numbers from a first to a last one.
func upTo(first, last int) []int {
	var l []int
	for n := first; n <= last; n++ {
		l = append(l, n)
	}
	return l
}

// remainder returns n modulo d, from 0 on.
func remainder(n, d int) int {
	n %= d
	if n < 0 {
		n += d
	}
	return n
}

// numbers returns a function that returns numbers below a limit, which look random and are the same for the same seed.
func numbers(seed int) func(limit int) int {
	state := uint64(seed)*2862933555777941757 + 3037000493
	return func(limit int) int {
		state = state*6364136223846793005 + 1442695040888963407
		return int(state>>33) % limit
	}
}

// text returns n bytes of all values. Texts of different kinds differ, if they have at least one byte.
func text(n, kind int) string {
	b := make([]byte, n)
	for i := range b {
		b[i] = byte(37*i + 101*kind + 200)
	}
	return string(b)
}

// sectors returns n sectors that all differ.
func sectors(n int) []string {
	var l []string
	for i := range n {
		l = append(l, text(128, i))
	}
	return l
}

// blank returns a machine without registers or words other than 0, whose devices do nothing but that the clock counts.
func blank(size, lines int) api.Machine {
	m := api.Machine{Mem: make([]int, size/2), Clock: api.Clock{Period: 100, Left: 100}}
	for range lines {
		m.Lines = append(m.Lines, api.Line{TxReady: true})
	}
	m.Disk = api.Disk{Drive: api.Drive{Sectors: sectors(2)}, Ready: true}
	m.Tape = api.Tape{Records: []string{"ab", "", text(70, 9)}, Ready: true}
	return m
}

// inUse returns a machine whose processor, memory and devices are all in use. Its memory management unit is off.
func inUse(size, lines int) api.Machine {
	m := blank(size, lines)
	for i := range m.Mem {
		m.Mem[i] = (i*40503 + 7) % 65536
	}
	m.Cpu = api.Cpu{R: [6]int{20, 33, 100, 65535, 64, 255}, SP: [2]int{200, 180}, PC: 34, PSW: 0x40E5}
	m.Bad = []int{6, 40, size - 2}
	m.Mmu = pagesOf(3)
	m.Clock = api.Clock{Enable: true, Ready: true, Period: 60, Left: 7}
	for i := range m.Lines {
		m.Lines[i] = api.Line{RxEnable: true, RxReady: true, Overrun: i%2 == 0, RxData: 65 + i, TxEnable: true, TxData: 97 + i, TxLeft: 1 + i%4, Out: text(5+i%8, i)}
	}
	m.Disk = api.Disk{Drive: api.Drive{Sectors: sectors(3), Bad: []int{1, 2}}, Enable: true, Error: true, Command: 1, Words: 70, Addr: 20, Start: 1, Left: 3}
	m.Tape = api.Tape{Records: []string{"ab", "", text(70, 9)}, Pos: 2, Enable: true, Error: true, Mark: true, End: true, Command: 2, Count: 9, Addr: 31, Left: 11}
	m.Now, m.Power, m.PowerTrap, m.Waiting = 12345, 77, true, true
	return m
}

// pagesOf returns a memory management unit that is off and no two pages of which are equal.
func pagesOf(kind int) api.Mmu {
	u := api.Mmu{Status: kind % 4, Addr: 1000*kind + 1}
	for mode := range 2 {
		for page := range 8 {
			n := 8*mode + page
			u.Pages[mode][page] = api.Page{Base: 200*n + kind, Length: 3*n + kind, Access: n % 3, Written: n%5 == 1}
		}
	}
	return u
}

// kept returns a copy of a machine, whose empty lists are nil.
func kept(m api.Machine) api.Machine {
	m.Mem = append([]int(nil), m.Mem...)
	m.Bad = append([]int(nil), m.Bad...)
	m.Lines = append([]api.Line(nil), m.Lines...)
	m.Disk.Drive.Sectors = append([]string(nil), m.Disk.Drive.Sectors...)
	m.Disk.Drive.Bad = append([]int(nil), m.Disk.Drive.Bad...)
	m.Tape.Records = append([]string(nil), m.Tape.Records...)
	return m
}

// same reports whether two machines are equal in all fields.
func same(a, b api.Machine) bool {
	if !slices.Equal(a.Mem, b.Mem) || !slices.Equal(a.Bad, b.Bad) || !slices.Equal(a.Lines, b.Lines) {
		return false
	}
	if !slices.Equal(a.Disk.Drive.Sectors, b.Disk.Drive.Sectors) || !slices.Equal(a.Disk.Drive.Bad, b.Disk.Drive.Bad) || !slices.Equal(a.Tape.Records, b.Tape.Records) {
		return false
	}
	k, l, x, y := a.Disk, b.Disk, a.Tape, b.Tape
	return a.Cpu == b.Cpu && a.Mmu == b.Mmu && a.Clock == b.Clock &&
		k.Enable == l.Enable && k.Ready == l.Ready && k.Error == l.Error && k.Command == l.Command && k.Words == l.Words && k.Addr == l.Addr && k.Start == l.Start && k.Left == l.Left &&
		x.Pos == y.Pos && x.Enable == y.Enable && x.Ready == y.Ready && x.Error == y.Error && x.Mark == y.Mark && x.End == y.End && x.Command == y.Command && x.Count == y.Count && x.Addr == y.Addr && x.Left == y.Left &&
		a.Now == b.Now && a.Halted == b.Halted && a.Waiting == b.Waiting && a.Power == b.Power && a.PowerTrap == b.PowerTrap
}

// differences returns the names of the fields of two machines that differ.
func differences(a, b api.Machine) string {
	a, b = kept(a), kept(b)
	fields := map[string]any{}
	eachField(reflect.ValueOf(&a).Elem(), "", func(name string, v reflect.Value) { fields[name] = v.Interface() })
	var l []string
	eachField(reflect.ValueOf(&b).Elem(), "", func(name string, v reflect.Value) {
		if !reflect.DeepEqual(fields[name], v.Interface()) {
			l = append(l, name)
		}
	})
	return strings.Join(l, ", ")
}

// eachField calls a function for all fields of a struct, and for those of its structs instead of these.
func eachField(v reflect.Value, name string, do func(name string, v reflect.Value)) {
	if v.Kind() != reflect.Struct {
		do(name, v)
		return
	}
	for i := range v.NumField() {
		eachField(v.Field(i), name+"."+v.Type().Field(i).Name, do)
	}
}

// change changes a number, a text or a bool; of a list or an array, that element of its elements which is at an index, or drops the last one if there is none at it.
func change(v reflect.Value, index int) {
	switch v.Kind() {
	case reflect.Int:
		v.SetInt(v.Int() + 1)
	case reflect.String:
		v.SetString(v.String() + "x")
	case reflect.Bool:
		v.SetBool(!v.Bool())
	case reflect.Array, reflect.Slice:
		if index < v.Len() {
			change(v.Index(index), index)
		} else {
			v.Set(v.Slice(0, v.Len()-1))
		}
	case reflect.Struct:
		change(v.Field(index%v.NumField()), index)
	}
}

// with returns a machine that has been changed as a text says: "r1=5 ps=4 w100=0o777" sets R1, the PSW and the word at the physical address 100. The names are r0 to r5, sp (that of the mode that the PSW says at this point), ksp and usp (those of kernel and user mode), pc, ps, w and an address, and rx, what has been typed on line 0.
func with(m api.Machine, settings string) api.Machine {
	m = kept(m)
	for _, s := range strings.Fields(settings) {
		name, value, ok := strings.Cut(s, "=")
		v, err := strconv.ParseInt(value, 0, 64)
		if !ok || err != nil {
			panic("a setting of the test: " + s)
		}
		set(&m, name, int(v))
	}
	return m
}

// set sets what has a name to a value.
func set(m *api.Machine, name string, v int) {
	c := &m.Cpu
	switch name {
	case "pc":
		c.PC = v
	case "ps":
		c.PSW = v
	case "ksp":
		c.SP[kernel] = v
	case "usp":
		c.SP[user] = v
	case "sp":
		c.SP[c.PSW>>15] = v
	case "rx":
		m.Lines[0].RxData, m.Lines[0].RxReady = v, true
	default:
		n, err := strconv.Atoi(name[1:])
		switch {
		case err == nil && name[0] == 'r':
			c.R[n] = v
		case err == nil && name[0] == 'w' && n%2 == 0:
			m.Mem[n/2] = v
		default:
			panic("a name of the test: " + name)
		}
	}
}

func TestHelpers(t *testing.T) {
	fields := 0
	m := inUse(256, 2)
	eachField(reflect.ValueOf(&m).Elem(), "", func(name string, v reflect.Value) {
		fields++
		indexes := []int{0, 1}
		if v.Kind() == reflect.Slice {
			indexes = append(indexes, v.Len())
		}
		for _, index := range indexes {
			if !same(m, inUse(256, 2)) || differences(m, inUse(256, 2)) != "" {
				t.Fatal("equal machines differ")
			}
			copied := kept(m)
			change(v, index)
			if same(m, copied) || differences(m, copied) != name {
				t.Errorf("a change of %s is not seen", name)
			}
			if !same(copied, inUse(256, 2)) {
				t.Errorf("a change of %s changes the copy", name)
			}
			m = copied
		}
	})
	if fields != 41 {
		t.Errorf("a machine has %d fields", fields)
	}
	a := blank(256, 0)
	b := a
	b.Bad, b.Lines = []int{}, []api.Line{}
	if !same(a, b) || differences(a, b) != "" {
		t.Error("empty lists differ")
	}
	for _, k := range []struct{ n, low int }{{0, 0}, {65535, 65535}, {65536, 0}, {-1, 65535}, {-65536, 0}, {-65537, 65535}, {math.MinInt, 0}, {math.MinInt + 65, 65}, {math.MaxInt, 65535}} {
		if got := remainder(k.n, 65536); got != k.low {
			t.Errorf("%d modulo 65536 is %d", k.n, got)
		}
	}
	for _, size := range []int{256, 320, 4096, 32768} {
		for lines := range 5 {
			if !bus.Right(blank(size, lines)) || !bus.Right(inUse(size, lines)) {
				t.Errorf("the machines of %d bytes with %d lines are not valid", size, lines)
			}
		}
	}
	if api.IOBase != ioBase || api.Kernel != kernel || api.User != user {
		t.Error("the constants of the test are wrong")
	}
}

func TestSettings(t *testing.T) {
	m := blank(256, 1)
	x := with(m, "r0=1 r5=0x10 sp=7 ps=0x8004 sp=0o11 pc=-1 w100=77 rx=65")
	want := blank(256, 1)
	want.Cpu = api.Cpu{R: [6]int{1, 0, 0, 0, 0, 16}, SP: [2]int{7, 9}, PC: -1, PSW: 0x8004}
	want.Mem[50] = 77
	want.Lines[0].RxData, want.Lines[0].RxReady = 65, true
	if !same(x, want) || !same(m, blank(256, 1)) {
		t.Errorf("differences: %s", differences(x, want))
	}
	if x = with(m, "ksp=3 usp=4"); x.Cpu.SP != [2]int{3, 4} || x.Cpu.PSW != 0 {
		t.Errorf("the stack pointers: %+v", x.Cpu)
	}
}

// P19.1: Right, Register, SetRegister.

// registersOf returns pointers to all words of a processor but the PSW.
func registersOf(c *api.Cpu) []*int {
	return []*int{&c.R[0], &c.R[1], &c.R[2], &c.R[3], &c.R[4], &c.R[5], &c.SP[0], &c.SP[1], &c.PC}
}

// validStatus reports whether a number is a processor status word.
func validStatus(n int) bool {
	return n >= 0 && n < 65536 && n/256%64 == 0
}

func TestRight(t *testing.T) {
	for _, psw := range []int{0, 0xC0FF} {
		base := api.Cpu{R: [6]int{1, 2, 3, 4, 5, 65535}, SP: [2]int{6, 7}, PC: 8, PSW: psw}
		if !cpu.Right(base) {
			t.Fatal("valid registers are not right")
		}
		for i := range registersOf(&base) {
			for _, n := range slices.Concat(upTo(-3, 3), upTo(32766, 32769), upTo(65534, 65538), farInts) {
				c := base
				*registersOf(&c)[i] = n
				if got, want := cpu.Right(c), n >= 0 && n <= 65535; got != want {
					t.Errorf("register %d is %d: %v", i, n, got)
				}
			}
		}
		for i := range registersOf(&base) {
			for j := range i {
				c := base
				*registersOf(&c)[i], *registersOf(&c)[j] = -1, 65536
				if cpu.Right(c) {
					t.Errorf("right with the registers %d and %d out of range", i, j)
				}
			}
		}
	}
	if !cpu.Right(api.Cpu{}) {
		t.Error("the zero registers are not right")
	}
}

func TestRightWithEveryStatusWord(t *testing.T) {
	right := 0
	for _, n := range slices.Concat(upTo(-300, 66000), farInts) {
		for _, c := range []api.Cpu{{PSW: n}, {R: [6]int{65535, 65535, 65535, 65535, 65535, 65535}, SP: [2]int{65535, 65535}, PC: 65535, PSW: n}} {
			got := cpu.Right(c)
			if got != validStatus(n) {
				t.Fatalf("%v with the status word %d", got, n)
			}
			if got {
				right++
			}
			if c.PC = 65536; cpu.Right(c) {
				t.Fatalf("right with a PC that is no word and the status word %d", n)
			}
		}
	}
	if right != 2*1024 {
		t.Errorf("%d times right", right)
	}
}

func TestRegister(t *testing.T) {
	c := api.Cpu{R: [6]int{10, 11, 12, 13, 14, 15}, SP: [2]int{16, 17}, PC: 18}
	for _, psw := range []int{0, 0x8000, 0x4000, 0xC000, 0x40FF, 0xC0FF, 0x80EF} {
		c.PSW = psw
		want := []int{0, 0, 10, 11, 12, 13, 14, 15, 16, 18, 0, 0}
		if psw >= 0x8000 {
			want[8] = 17
		}
		for i, n := range upTo(-2, 9) {
			if got := cpu.Register(c, n); got != want[i] {
				t.Errorf("register %d with the status word %#x is %d", n, psw, got)
			}
		}
		for _, n := range slices.Concat(upTo(-300, -1), upTo(8, 300), farInts) {
			if got := cpu.Register(c, n); got != 0 {
				t.Errorf("register %d with the status word %#x is %d", n, psw, got)
			}
		}
	}
}

func TestSetRegister(t *testing.T) {
	for _, psw := range []int{0, 0x8000, 0x4000, 0xC000, 0x40FF, 0xC0FF, 0x80EF} {
		base := api.Cpu{R: [6]int{10, 11, 12, 13, 14, 15}, SP: [2]int{16, 17}, PC: 18, PSW: psw}
		place := []int{0, 1, 2, 3, 4, 5, 6, 8}
		if psw >= 0x8000 {
			place[6] = 7
		}
		for _, n := range slices.Concat(upTo(-20, 30), farInts) {
			for _, v := range slices.Concat(upTo(-3, 3), upTo(255, 257), upTo(32766, 32769), upTo(65534, 65538), farInts) {
				c, want := base, base
				if n >= 0 && n <= 7 {
					*registersOf(&want)[place[n]] = remainder(v, 65536)
				}
				got := cpu.SetRegister(c, n, v)
				if got != want || c != base {
					t.Fatalf("setting register %d to %d with the status word %#x: %+v", n, v, psw, got)
				}
				if !cpu.Right(got) {
					t.Fatalf("setting register %d to %d: not right", n, v)
				}
				if n >= 0 && n <= 7 && cpu.Register(got, n) != remainder(v, 65536) {
					t.Fatalf("register %d is not what it was set to", n)
				}
			}
		}
	}
}

func TestRegistersThatAreNotValid(t *testing.T) {
	for _, n := range slices.Concat(upTo(-3, 3), farInts) {
		c := api.Cpu{R: [6]int{n, n, n, n, n, n}, SP: [2]int{n, n}, PC: n, PSW: n}
		for _, r := range slices.Concat(upTo(-2, 9), farInts) {
			cpu.Register(c, r)
			cpu.SetRegister(c, r, n)
		}
	}
}
