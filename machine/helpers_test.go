package machine_test

import (
	"math"
	"reflect"
	"slices"
	"strconv"
	"strings"
	"testing"

	"emulator/api"
	"emulator/machine"
)

// ioBase is the first physical address of the registers; without memory management it is the virtual address ioPage.
const (
	ioBase = 0x3E000
	ioPage = 0xE000
)

const (
	kernel = 0
	user   = 1
)

// maxTicks is the greatest time.
const maxTicks = 1099511627776

// farInts has integers far from all sizes, counts and numbers of lines, many of which become one of them when they are cut to fewer bits.
var farInts = []int{math.MinInt, math.MinInt + 1, math.MinInt + 256, math.MinInt + 9999, -1 << 62, -1 << 40, -1<<40 + 256, -1 << 32, -1<<32 + 1, -1<<32 + 256, -1 << 31, -1<<31 + 1, -65536, -65535, -65280, -32768, -10000, -257, -256,
	1 << 16, 1<<16 + 1, 1<<16 + 256, 1 << 31, 1<<31 + 1, 1 << 32, 1<<32 + 1, 1<<32 + 256, 1<<40 + 4, 1<<40 + 9999, 1 << 41, 1 << 62, 1<<62 + 1, math.MaxInt - 255, math.MaxInt - 1, math.MaxInt}

var bools = []bool{false, true}

// upTo returns the numbers from a first to a last one.
func upTo(first, last int) []int {
	var l []int
	for n := first; n <= last; n++ {
		l = append(l, n)
	}
	return l
}

// remainder returns n modulo d, from 0 on.
func remainder(n, d int) int {
	n %= d
	if n < 0 {
		n += d
	}
	return n
}

// numbers returns a function that returns numbers below a limit, which look random and are the same for the same seed.
func numbers(seed int) func(limit int) int {
	state := uint64(seed)*2862933555777941757 + 3037000493
	return func(limit int) int {
		state = state*6364136223846793005 + 1442695040888963407
		return int(state>>33) % limit
	}
}

// text returns n bytes of all values. Texts of different kinds differ, if they have at least one byte.
func text(n, kind int) string {
	b := make([]byte, n)
	for i := range b {
		b[i] = byte(37*i + 101*kind + 200)
	}
	return string(b)
}

// sectors returns n sectors that all differ.
func sectors(n int) []string {
	var l []string
	for i := range n {
		l = append(l, text(128, i))
	}
	return l
}

// blank returns a machine without registers or words other than 0, whose devices do nothing but that the clock counts.
func blank(size, lines int) api.Machine {
	m := api.Machine{Mem: make([]int, size/2), Clock: api.Clock{Period: 100, Left: 100}}
	for range lines {
		m.Lines = append(m.Lines, api.Line{TxReady: true})
	}
	m.Disk = api.Disk{Drive: api.Drive{Sectors: sectors(2)}, Ready: true}
	m.Tape = api.Tape{Records: []string{"ab", "", text(70, 9)}, Ready: true}
	return m
}

// begun returns a machine of 1024 bytes with two lines, in kernel mode and without memory management, with the words at 300, where PC is. Through each vector v from 4 to 252 PC becomes 600 + v, and the PSW is 0xE1: the priority 7, and C.
func begun(words ...int) api.Machine {
	m := blank(1024, 2)
	m.Cpu.SP, m.Cpu.PC = [2]int{512, 1024}, 300
	for v := 4; v <= 252; v += 4 {
		m.Mem[v/2], m.Mem[v/2+1] = 600+v, 0xE1
	}
	copy(m.Mem[150:], words)
	return m
}

// inUse returns a machine whose processor, memory and devices are all in use. Its memory management unit is off.
func inUse(size, lines int) api.Machine {
	m := blank(size, lines)
	for i := range m.Mem {
		m.Mem[i] = (i*40503 + 7) % 65536
	}
	m.Cpu = api.Cpu{R: [6]int{20, 33, 100, 65535, 64, 255}, SP: [2]int{200, 180}, PC: 34, PSW: 0x40E5}
	m.Bad = []int{6, 40, size - 2}
	m.Mmu = pagesOf(3)
	m.Clock = api.Clock{Enable: true, Ready: true, Period: 60, Left: 7}
	for i := range m.Lines {
		m.Lines[i] = api.Line{RxEnable: true, RxReady: true, Overrun: i%2 == 0, RxData: 65 + i, TxEnable: true, TxData: 97 + i, TxLeft: 1 + i%4, Out: text(5+i%8, i)}
	}
	m.Disk = api.Disk{Drive: api.Drive{Sectors: sectors(3), Bad: []int{1, 2}}, Enable: true, Error: true, Command: 1, Words: 70, Addr: 20, Start: 1, Left: 3}
	m.Tape = api.Tape{Records: []string{"ab", "", text(70, 9)}, Pos: 2, Enable: true, Error: true, Mark: true, End: true, Command: 2, Count: 9, Addr: 31, Left: 11}
	m.Now, m.Power, m.PowerTrap, m.Waiting = 12345, 77, true, true
	return m
}

// pagesOf returns a memory management unit that is off and no two pages of which are equal.
func pagesOf(kind int) api.Mmu {
	u := api.Mmu{Status: kind % 4, Addr: 1000*kind + 1}
	for mode := range 2 {
		for page := range 8 {
			n := 8*mode + page
			u.Pages[mode][page] = api.Page{Base: 200*n + kind, Length: 3*n + kind, Access: n % 3, Written: n%5 == 1}
		}
	}
	return u
}

// kept returns a copy of a machine, whose empty lists are nil.
func kept(m api.Machine) api.Machine {
	m.Mem = append([]int(nil), m.Mem...)
	m.Bad = append([]int(nil), m.Bad...)
	m.Lines = append([]api.Line(nil), m.Lines...)
	m.Disk.Drive.Sectors = append([]string(nil), m.Disk.Drive.Sectors...)
	m.Disk.Drive.Bad = append([]int(nil), m.Disk.Drive.Bad...)
	m.Tape.Records = append([]string(nil), m.Tape.Records...)
	return m
}

// same reports whether two machines are equal in all fields.
func same(a, b api.Machine) bool {
	if !slices.Equal(a.Mem, b.Mem) || !slices.Equal(a.Bad, b.Bad) || !slices.Equal(a.Lines, b.Lines) {
		return false
	}
	if !slices.Equal(a.Disk.Drive.Sectors, b.Disk.Drive.Sectors) || !slices.Equal(a.Disk.Drive.Bad, b.Disk.Drive.Bad) || !slices.Equal(a.Tape.Records, b.Tape.Records) {
		return false
	}
	k, l, x, y := a.Disk, b.Disk, a.Tape, b.Tape
	return a.Cpu == b.Cpu && a.Mmu == b.Mmu && a.Clock == b.Clock &&
		k.Enable == l.Enable && k.Ready == l.Ready && k.Error == l.Error && k.Command == l.Command && k.Words == l.Words && k.Addr == l.Addr && k.Start == l.Start && k.Left == l.Left &&
		x.Pos == y.Pos && x.Enable == y.Enable && x.Ready == y.Ready && x.Error == y.Error && x.Mark == y.Mark && x.End == y.End && x.Command == y.Command && x.Count == y.Count && x.Addr == y.Addr && x.Left == y.Left &&
		a.Now == b.Now && a.Halted == b.Halted && a.Waiting == b.Waiting && a.Power == b.Power && a.PowerTrap == b.PowerTrap
}

// differences returns the names of the fields of two machines that differ.
func differences(a, b api.Machine) string {
	a, b = kept(a), kept(b)
	fields := map[string]any{}
	eachField(reflect.ValueOf(&a).Elem(), "", func(name string, v reflect.Value) { fields[name] = v.Interface() })
	var l []string
	eachField(reflect.ValueOf(&b).Elem(), "", func(name string, v reflect.Value) {
		if !reflect.DeepEqual(fields[name], v.Interface()) {
			l = append(l, name)
		}
	})
	return strings.Join(l, ", ")
}

// eachField calls a function for all fields of a struct, and for those of its structs instead of these.
func eachField(v reflect.Value, name string, do func(name string, v reflect.Value)) {
	if v.Kind() != reflect.Struct {
		do(name, v)
		return
	}
	for i := range v.NumField() {
		eachField(v.Field(i), name+"."+v.Type().Field(i).Name, do)
	}
}

// change changes a number, a text or a bool; of a list or an array, that element of its elements which is at an index, or drops the last one if there is none at it.
func change(v reflect.Value, index int) {
	switch v.Kind() {
	case reflect.Int:
		v.SetInt(v.Int() + 1)
	case reflect.String:
		v.SetString(v.String() + "x")
	case reflect.Bool:
		v.SetBool(!v.Bool())
	case reflect.Array, reflect.Slice:
		if index < v.Len() {
			change(v.Index(index), index)
		} else {
			v.Set(v.Slice(0, v.Len()-1))
		}
	case reflect.Struct:
		change(v.Field(index%v.NumField()), index)
	}
}

// with returns a machine that has been changed as a text says: "r1=5 ps=4 w100=0o777" sets R1, the PSW and the word at the physical address 100. The names are r0 to r5, ksp and usp (the stack pointers), pc, ps, w and an address, bad (the only bad address), now, power, and left, the ticks that are left of the clock's period; and the conditions halted, waiting, powertrap, ready (of the clock), rx0, tx0, rx1, tx1, clock, disk and tape (a request of that interrupt), which are 0 or 1.
func with(m api.Machine, settings string) api.Machine {
	m = kept(m)
	for _, s := range strings.Fields(settings) {
		name, value, ok := strings.Cut(s, "=")
		v, err := strconv.ParseInt(value, 0, 64)
		if !ok || err != nil {
			panic("a setting of the test: " + s)
		}
		set(&m, name, int(v))
	}
	return m
}

// set sets what has a name to a value.
func set(m *api.Machine, name string, v int) {
	numbers := map[string]*int{"pc": &m.Cpu.PC, "ps": &m.Cpu.PSW, "ksp": &m.Cpu.SP[0], "usp": &m.Cpu.SP[1], "now": &m.Now, "power": &m.Power, "left": &m.Clock.Left}
	conditions := map[string][]*bool{
		"halted": {&m.Halted}, "waiting": {&m.Waiting}, "powertrap": {&m.PowerTrap},
		"clock": {&m.Clock.Enable, &m.Clock.Ready}, "ready": {&m.Clock.Ready}, "disk": {&m.Disk.Enable}, "tape": {&m.Tape.Enable},
	}
	for i := range m.Lines {
		l := &m.Lines[i]
		conditions["rx"+strconv.Itoa(i)] = []*bool{&l.RxEnable, &l.RxReady}
		conditions["tx"+strconv.Itoa(i)] = []*bool{&l.TxEnable}
	}
	if p := numbers[name]; p != nil {
		*p = v
		return
	}
	if l := conditions[name]; l != nil && (v == 0 || v == 1) {
		for _, p := range l {
			*p = v == 1
		}
		return
	}
	if name == "bad" {
		m.Bad = []int{v}
		return
	}
	n, err := strconv.Atoi(name[1:])
	switch {
	case err == nil && name[0] == 'r':
		m.Cpu.R[n] = v
	case err == nil && name[0] == 'w' && n%2 == 0:
		m.Mem[n/2] = v
	default:
		panic("a name of the test: " + name)
	}
}

func TestHelpers(t *testing.T) {
	fields := 0
	m := inUse(256, 2)
	eachField(reflect.ValueOf(&m).Elem(), "", func(name string, v reflect.Value) {
		fields++
		indexes := []int{0, 1}
		if v.Kind() == reflect.Slice {
			indexes = append(indexes, v.Len())
		}
		for _, index := range indexes {
			if !same(m, inUse(256, 2)) || differences(m, inUse(256, 2)) != "" {
				t.Fatal("equal machines differ")
			}
			copied := kept(m)
			change(v, index)
			if same(m, copied) || differences(m, copied) != name {
				t.Errorf("a change of %s is not seen", name)
			}
			if !same(copied, inUse(256, 2)) {
				t.Errorf("a change of %s changes the copy", name)
			}
			m = copied
		}
	})
	if fields != 41 {
		t.Errorf("a machine has %d fields", fields)
	}
	a := blank(256, 0)
	b := a
	b.Bad, b.Lines = []int{}, []api.Line{}
	if !same(a, b) || differences(a, b) != "" {
		t.Error("empty lists differ")
	}
	for _, k := range []struct{ n, low int }{{0, 0}, {255, 255}, {256, 0}, {-1, 255}, {-256, 0}, {-257, 255}, {math.MinInt, 0}, {math.MinInt + 65, 65}, {math.MaxInt, 255}} {
		if got := remainder(k.n, 256); got != k.low {
			t.Errorf("%d modulo 256 is %d", k.n, got)
		}
	}
	if api.IOBase != ioBase || api.Kernel != kernel || api.User != user || api.MaxTicks != maxTicks {
		t.Error("the constants of the test are wrong")
	}
}

func TestSettings(t *testing.T) {
	m := blank(256, 2)
	x := with(m, "r0=1 r5=0x10 ksp=7 usp=9 ps=0x8004 pc=-1 w100=77 now=3 power=4 left=5 waiting=1 powertrap=1 clock=1 disk=1 tape=1 rx1=1 tx0=1 bad=6")
	want := blank(256, 2)
	want.Cpu = api.Cpu{R: [6]int{1, 0, 0, 0, 0, 16}, SP: [2]int{7, 9}, PC: -1, PSW: 0x8004}
	want.Mem[50], want.Bad = 77, []int{6}
	want.Now, want.Power, want.Waiting, want.PowerTrap = 3, 4, true, true
	want.Clock = api.Clock{Enable: true, Ready: true, Period: 100, Left: 5}
	want.Disk.Enable, want.Tape.Enable = true, true
	want.Lines[1].RxEnable, want.Lines[1].RxReady, want.Lines[0].TxEnable = true, true, true
	if !same(x, want) || !same(m, blank(256, 2)) {
		t.Errorf("differences: %s", differences(x, want))
	}
	want = blank(256, 2)
	want.Cpu = x.Cpu
	want.Mem[50], want.Bad = 77, []int{6}
	want.Halted = true
	want.Clock.Left, want.Clock.Ready = 5, true
	if x = with(x, "halted=1 now=0 power=0 waiting=0 powertrap=0 clock=0 disk=0 tape=0 rx1=0 tx0=0 ready=1"); !same(x, want) {
		t.Errorf("differences: %s", differences(x, want))
	}
	if m = begun(0o012345, 7); m.Mem[150] != 0o012345 || m.Mem[151] != 7 || m.Mem[1] != 0 || m.Mem[2] != 604 || m.Mem[3] != 0xE1 || m.Mem[126] != 852 || m.Mem[128] != 0 || !machine.Right(m) {
		t.Errorf("begun: %v", m.Mem[:160])
	}
}
