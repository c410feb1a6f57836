package cpu_test

import (
	"math"
	"reflect"
	"slices"
	"testing"

	"emulator/api"
	"emulator/bus"
	"emulator/cpu"
	"emulator/inst"
)

// list is a list of a machine.
type list interface {
	// values returns a copy of the list, with what lies behind its end.
	values() any
	// scribble changes all of that.
	scribble()
}

// part is a list with elements of some type, and a function that changes one of them.
type part[E any] struct {
	l      []E
	change func(e *E)
}

func (p part[E]) values() any { return slices.Clone(p.l[:cap(p.l)]) }

func (p part[E]) scribble() {
	for i := range p.l[:cap(p.l)] {
		p.change(&p.l[:cap(p.l)][i])
	}
}

// lists returns the lists of a machine.
func lists(m api.Machine) []list {
	count := func(n *int) { *n += 1000 }
	spell := func(s *string) { *s += "x" }
	return []list{
		part[int]{m.Mem, count}, part[int]{m.Bad, count}, part[api.Line]{m.Lines, func(l *api.Line) { l.RxData += 1000 }},
		part[string]{m.Disk.Drive.Sectors, spell}, part[int]{m.Disk.Drive.Bad, count}, part[string]{m.Tape.Records, spell},
	}
}

// valuesOf returns copies of lists.
func valuesOf(l []list) []any {
	var all []any
	for _, x := range l {
		all = append(all, x.values())
	}
	return all
}

// roomy returns a copy of a list, behind whose end lie others of its elements.
func roomy[E any](l []E) []E {
	room := slices.Concat(l, l, l)
	return room[:len(l):min(cap(room), len(l)+3)]
}

// withRoom returns a machine whose lists are roomy.
func withRoom(m api.Machine) api.Machine {
	m.Mem, m.Bad, m.Lines = roomy(m.Mem), roomy(m.Bad), roomy(m.Lines)
	m.Disk.Drive.Sectors, m.Disk.Drive.Bad = roomy(m.Disk.Drive.Sectors), roomy(m.Disk.Drive.Bad)
	m.Tape.Records = roomy(m.Tape.Records)
	return m
}

// call is a call with a machine that returns one.
type call struct {
	name string
	do   func(m api.Machine) api.Machine
}

// calls has calls of all functions that return a machine, with and without traps.
func calls() []call {
	fetched := func(m api.Machine) api.Machine { _, _, x, _ := cpu.Fetch(m); return x }
	l := []call{{"Fetch", fetched}}
	for _, pc := range []int{0, 2, 33, 40, 64, 254, 256, 8192, 16384, 57344, ioPage + 514, 65535} {
		l = append(l, call{"Fetch", func(m api.Machine) api.Machine { m.Cpu.PC = pc; return fetched(m) }})
	}
	for _, addr := range []int{0, 2, 7, 33, 40, 64, 100, 254, 256, 512, 8192, 16384, 57344, ioPage + 2, ioPage + 256, ioPage + 514, ioPage + 518, -1} {
		for _, byte := range bools {
			l = append(l, call{"Load", func(m api.Machine) api.Machine { x, _, _ := cpu.Load(m, addr, byte); return x }})
			l = append(l, call{"Store", func(m api.Machine) api.Machine { x, _ := cpu.Store(m, addr, byte, 67); return x }})
		}
		l = append(l, call{"Enter", func(m api.Machine) api.Machine { return cpu.Enter(m, addr) }})
	}
	for _, words := range [][]int{
		{0o010001}, {0o011001}, {0o010011}, {0o012737, 5, 100}, {0o112737, 5, 41}, {0o062737, 5, 6}, {0o022727, 5, 6}, {0o012737, 5, 57604}, {0o013737, 57858, 100}, {0o012737, 5, 57862},
		{0o005001}, {0o005211}, {0o105711}, {0o070201}, {0o071212}, {0o072301}, {0o074012}, {0o000111}, {0o004711}, {0o000205}, {0o077105}, {0o000405}, {0o001005},
		{0o006512}, {0o006612}, {0o006506}, {0o006606}, {0o104000}, {0o104400}, {2}, {3}, {4}, {0}, {1}, {5}, {0o000240}, {0o000277},
	} {
		i, n := inst.Decode(words)
		l = append(l, call{"Execute", func(m api.Machine) api.Machine { x, _ := cpu.Execute(m, i, n); return x }})
		l = append(l, call{"Execute", func(m api.Machine) api.Machine { x, _ := cpu.Execute(m, i, n+1); return x }})
	}
	return append(l, call{"Execute", func(m api.Machine) api.Machine { x, _ := cpu.Execute(m, api.Inst{}, 0); return x }})
}

// machines returns valid machines.
func machines() []api.Machine {
	l := []api.Machine{begun(0o012737, 5, 100), inUse(256, 0), inUse(256, 4), paged(0), paged(0xC000), blank(256, 0), inUse(4096, 2)}
	next := numbers(10)
	for range 10 {
		l = append(l, scene(next))
	}
	user := inUse(256, 2)
	user.Cpu.PSW |= 0x8000
	return append(l, user)
}

func TestListsOfTheTest(t *testing.T) {
	m := withRoom(inUse(256, 3))
	for i, l := range lists(m) {
		before := valuesOf(lists(m))
		l.scribble()
		for j, v := range valuesOf(lists(m)) {
			if reflect.DeepEqual(v, before[j]) != (i != j) {
				t.Errorf("changing list %d, list %d: %v", i, j, i != j)
			}
		}
	}
	n := 0
	eachField(reflect.ValueOf(&m).Elem(), "", func(name string, v reflect.Value) {
		if v.Kind() == reflect.Slice {
			n++
		}
	})
	if n != len(lists(m)) {
		t.Errorf("a machine has %d lists", n)
	}
	if !same(withRoom(begun()), begun()) || !same(withRoom(inUse(4096, 4)), inUse(4096, 4)) {
		t.Error("a roomy machine is another one")
	}
}

func TestArgumentsStay(t *testing.T) {
	for _, m := range machines() {
		for _, c := range calls() {
			given := withRoom(m)
			before := valuesOf(lists(given))
			c.do(given)
			if !reflect.DeepEqual(valuesOf(lists(given)), before) {
				t.Fatalf("%s changes lists that it was given", c.name)
			}
		}
	}
}

func TestResultsAreNewMemory(t *testing.T) {
	for _, m := range machines() {
		for _, c := range calls() {
			given := withRoom(m)
			before := valuesOf(lists(given))
			got := lists(c.do(given))
			for i := range got {
				others := valuesOf(got)
				got[i].scribble()
				now := valuesOf(got)
				for j := range got {
					if j != i && !reflect.DeepEqual(now[j], others[j]) {
						t.Fatalf("%s: the lists %d and %d share memory", c.name, i, j)
					}
				}
			}
			if !reflect.DeepEqual(valuesOf(lists(given)), before) {
				t.Fatalf("%s: the result shares memory with the argument", c.name)
			}
		}
	}
}

// Operations on valid machines return valid machines.
func TestResultsAreValid(t *testing.T) {
	for _, m := range machines() {
		for _, c := range calls() {
			if x := c.do(m); !bus.Right(x) || !cpu.Right(x.Cpu) {
				t.Fatalf("%s returns a machine that is not valid: %+v", c.name, x.Cpu)
			}
		}
	}
}

// The same call gives the same result again.
func TestCallsAreRepeatable(t *testing.T) {
	for _, m := range machines() {
		for _, c := range calls() {
			if x, y := c.do(m), c.do(m); !same(x, y) {
				t.Fatalf("%s: differences: %s", c.name, differences(x, y))
			}
		}
	}
}

// invalidMachines returns machines that are not valid, in many ways.
func invalidMachines() []api.Machine {
	l := []api.Machine{{}, {Lines: make([]api.Line, 40)}, {Mem: []int{-1}}, {Mem: make([]int, 33)}}
	for _, n := range slices.Concat([]int{-2, -1, 1, 65536, 99999}, farInts) {
		m := inUse(256, 2)
		m.Cpu = api.Cpu{R: [6]int{n, n + 1, 1 - n, n, n, n}, SP: [2]int{n, n - 1}, PC: n, PSW: n}
		l = append(l, m)
		for _, on := range bools {
			m = inUse(256, 2)
			m.Mmu = api.Mmu{On: on, Status: n, Addr: n}
			for i := range m.Mmu.Pages {
				for page := range m.Mmu.Pages[i] {
					m.Mmu.Pages[i][page] = api.Page{Base: n, Length: n, Access: n}
				}
			}
			l = append(l, m)
		}
		m = begun(n, n, n)
		m.Mem[2], m.Mem[3], m.Bad = n, n, []int{n, 4, n}
		l = append(l, m)
		m.Lines = []api.Line{{RxData: n, TxData: n, TxLeft: n}}
		m.Disk = api.Disk{Command: n, Words: n, Addr: n, Start: n, Left: n}
		m.Tape = api.Tape{Pos: n, Command: n, Count: n, Addr: n, Left: n}
		m.Clock = api.Clock{Period: n, Left: n}
		l = append(l, m)
	}
	return l
}

func TestInvalidMachines(t *testing.T) {
	for _, m := range invalidMachines() {
		given := withRoom(m)
		before := valuesOf(lists(given))
		for _, c := range calls() {
			c.do(given)
		}
		for _, pc := range []int{0, 64, 7, m.Cpu.PC} {
			x := given
			x.Cpu.PC = pc
			cpu.Fetch(x)
		}
		for _, n := range farInts {
			cpu.Load(given, n, false)
			cpu.Store(given, n, true, n)
			cpu.Enter(given, n)
			cpu.Execute(given, api.Inst{Op: api.Op(n), Reg: n, Num: n}, n)
		}
		if !reflect.DeepEqual(valuesOf(lists(given)), before) {
			t.Fatal("a machine that is not valid has been changed")
		}
	}
}

func TestExtremeInstructions(t *testing.T) {
	next := numbers(11)
	values := append([]int{0, 1, 2, 3, 6, 7, 8, 255, 65535}, farInts...)
	pick := func() int { return values[next(len(values))] }
	for range 3000 {
		i := api.Inst{Op: api.Op(next(58)), Byte: next(2) == 0, Src: api.Operand{Mode: pick(), Reg: pick(), Ext: pick()}, Dst: api.Operand{Mode: pick(), Reg: pick(), Ext: pick()}, Reg: pick(), Num: pick()}
		if inst.Valid(i) {
			continue
		}
		for _, words := range []int{0, 1, math.MinInt, math.MaxInt} {
			if _, trap := cpu.Execute(begun(), i, words); trap != api.TrIllegal {
				t.Fatalf("%+v: trap %d", i, trap)
			}
		}
	}
}
