package machine_test

import (
	"reflect"
	"slices"
	"testing"

	"emulator/api"
	"emulator/machine"
)

// list is a list of a machine.
type list interface {
	// values returns a copy of the list, with what lies behind its end.
	values() any
	// scribble changes all of that.
	scribble()
}

// part is a list with elements of some type, and a function that changes one of them.
type part[E any] struct {
	l      []E
	change func(e *E)
}

func (p part[E]) values() any { return slices.Clone(p.l[:cap(p.l)]) }

func (p part[E]) scribble() {
	for i := range p.l[:cap(p.l)] {
		p.change(&p.l[:cap(p.l)][i])
	}
}

// lists returns the lists of a machine.
func lists(m api.Machine) []list {
	count := func(n *int) { *n += 1000 }
	spell := func(s *string) { *s += "x" }
	return []list{
		part[int]{m.Mem, count}, part[int]{m.Bad, count}, part[api.Line]{m.Lines, func(l *api.Line) { l.RxData += 1000 }},
		part[string]{m.Disk.Drive.Sectors, spell}, part[int]{m.Disk.Drive.Bad, count}, part[string]{m.Tape.Records, spell},
	}
}

// valuesOf returns copies of lists.
func valuesOf(l []list) []any {
	var all []any
	for _, x := range l {
		all = append(all, x.values())
	}
	return all
}

// roomy returns a copy of a list, behind whose end lie others of its elements.
func roomy[E any](l []E) []E {
	room := slices.Concat(l, l, l)
	return room[:len(l):min(cap(room), len(l)+3)]
}

// withRoom returns a machine whose lists are roomy.
func withRoom(m api.Machine) api.Machine {
	m.Mem, m.Bad, m.Lines = roomy(m.Mem), roomy(m.Bad), roomy(m.Lines)
	m.Disk.Drive.Sectors, m.Disk.Drive.Bad = roomy(m.Disk.Drive.Sectors), roomy(m.Disk.Drive.Bad)
	m.Tape.Records = roomy(m.Tape.Records)
	return m
}

// call is a call with a machine that returns one. Calls that need valid machines are only made with these.
type call struct {
	name string
	do   func(m api.Machine) api.Machine
}

// calls has calls of all functions that are given a machine, with and without errors.
func calls() []call {
	l := []call{{"Copy", machine.Copy}, {"Step", machine.Step}, {"Restart", machine.Restart}}
	for _, n := range []int{-1 << 63, -5, -1, 0, 1, 2, 7} {
		l = append(l, call{"Run", func(m api.Machine) api.Machine { return machine.Run(m, n) }})
	}
	for _, n := range []int{-1 << 63, -1, 0, 1, 3, 4, 1<<63 - 1} {
		l = append(l, call{"Type", func(m api.Machine) api.Machine { x, _ := machine.Type(m, n, 65); return x }})
	}
	for _, n := range []int{-1 << 63, -1, 0, 1, 10000, 10001, 1<<63 - 1} {
		l = append(l, call{"Fail", func(m api.Machine) api.Machine { x, _ := machine.Fail(m, n); return x }})
	}
	// Each cause of a step, which is made by the same call with another machine.
	for _, s := range []string{"halted=1 waiting=0 power=0 powertrap=0", "powertrap=1 waiting=1 halted=0", "powertrap=0 ps=0 clock=1", "powertrap=0 ps=0 disk=1 tape=1 waiting=1", "powertrap=0 ps=0xE0 waiting=1", "powertrap=0 ps=0xF0 waiting=0", "powertrap=0 ps=0xE0 waiting=0 power=1"} {
		l = append(l, call{"Step with " + s, func(m api.Machine) api.Machine { return machine.Step(withFields(m, s)) }})
	}
	return l
}

// withFields is with, but leaves the lists as they are.
func withFields(m api.Machine, settings string) api.Machine {
	x := with(m, settings)
	x.Mem, x.Bad, x.Lines = m.Mem, m.Bad, m.Lines
	x.Disk.Drive, x.Tape.Records = m.Disk.Drive, m.Tape.Records
	return x
}

// machines returns valid machines.
func machines() []api.Machine {
	l := []api.Machine{begun(0o012737, 5, 100), begun(1), begun(0), begun(5), begun(0o104400), inUse(256, 0), inUse(256, 4), blank(256, 0), blank(4096, 4), inUse(4096, 2)}
	next := numbers(10)
	for range 12 {
		l = append(l, scene(next))
	}
	busy := begun(0o012737, 5, 100, 0o010203)
	busy.Disk.Command, busy.Disk.Words, busy.Disk.Left, busy.Disk.Ready = 1, 5, 1, false
	busy.Tape.Command, busy.Tape.Count, busy.Tape.Left, busy.Tape.Ready = 1, 70, 1, false
	failing := kept(busy)
	failing.Power, failing.Disk.Left, failing.Tape.Left = 1, 2, 2
	return append(l, busy, failing)
}

func TestListsOfTheTest(t *testing.T) {
	m := withRoom(inUse(256, 3))
	for i, l := range lists(m) {
		before := valuesOf(lists(m))
		l.scribble()
		for j, v := range valuesOf(lists(m)) {
			if reflect.DeepEqual(v, before[j]) != (i != j) {
				t.Errorf("changing list %d, list %d: %v", i, j, i != j)
			}
		}
	}
	n := 0
	eachField(reflect.ValueOf(&m).Elem(), "", func(name string, v reflect.Value) {
		if v.Kind() == reflect.Slice {
			n++
		}
	})
	if n != len(lists(m)) {
		t.Errorf("a machine has %d lists", n)
	}
	if !same(withRoom(begun()), begun()) || !same(withRoom(inUse(4096, 4)), inUse(4096, 4)) {
		t.Error("a roomy machine is another one")
	}
	for i, m := range machines() {
		if !machine.Right(m) {
			t.Errorf("machine %d is not valid", i)
		}
	}
	for i, m := range invalidMachines() {
		if machine.Right(m) {
			t.Errorf("the invalid machine %d is valid", i)
		}
	}
}

func TestArgumentsStay(t *testing.T) {
	for _, m := range slices.Concat(machines(), invalidMachines()) {
		for _, c := range calls() {
			given := withRoom(m)
			before := valuesOf(lists(given))
			c.do(given)
			machine.Cause(given)
			machine.Right(given)
			if !reflect.DeepEqual(valuesOf(lists(given)), before) {
				t.Fatalf("%s changes lists that it was given", c.name)
			}
		}
	}
}

// fresh checks that a call returns lists that share no memory with those that it is given, or with one another.
func fresh(t *testing.T, m api.Machine, c call) {
	t.Helper()
	given := withRoom(m)
	before := valuesOf(lists(given))
	got := lists(c.do(given))
	for i := range got {
		others := valuesOf(got)
		got[i].scribble()
		now := valuesOf(got)
		for j := range got {
			if j != i && !reflect.DeepEqual(now[j], others[j]) {
				t.Fatalf("%s: the lists %d and %d share memory", c.name, i, j)
			}
		}
	}
	if !reflect.DeepEqual(valuesOf(lists(given)), before) {
		t.Fatalf("%s: the result shares memory with the argument", c.name)
	}
}

func TestResultsAreNewMemory(t *testing.T) {
	for _, m := range machines() {
		for _, c := range calls() {
			fresh(t, m, c)
		}
	}
	for _, m := range invalidMachines() {
		fresh(t, m, call{"Copy", machine.Copy})
	}
}

// The calls with an error or without one return a valid machine, or the zero machine.
func TestResultsAreValid(t *testing.T) {
	for _, m := range machines() {
		for _, c := range calls() {
			if x := c.do(m); !machine.Right(x) && !same(x, api.Machine{}) {
				t.Fatalf("%s returns a machine that is not valid: %+v", c.name, x.Cpu)
			}
		}
	}
}

// The same call gives the same result again.
func TestCallsAreRepeatable(t *testing.T) {
	for _, m := range machines() {
		for _, c := range calls() {
			if x, y := c.do(m), c.do(m); !same(x, y) {
				t.Fatalf("%s: differences: %s", c.name, differences(x, y))
			}
		}
	}
}

// invalidMachines returns machines that are not valid, in many ways.
func invalidMachines() []api.Machine {
	l := []api.Machine{{}, {Lines: make([]api.Line, 40)}, {Mem: []int{-1}}, {Mem: make([]int, 33)}}
	for _, s := range spoilers() {
		m := inUse(256, 3)
		s.spoil(&m)
		l = append(l, m)
	}
	for _, n := range slices.Concat([]int{-2, -1, 65536, 99999}, farInts) {
		m := inUse(256, 2)
		m.Cpu = api.Cpu{R: [6]int{n, n + 1, 1 - n, n, n, n}, SP: [2]int{n, n - 1}, PC: n, PSW: n}
		m.Now, m.Power = n, n
		l = append(l, m)
		m = begun(0o012737, 5, 100)
		m.Now, m.Power = -1, n
		l = append(l, m)
		for _, on := range bools {
			m = inUse(256, 2)
			m.Mmu = api.Mmu{On: on, Status: n, Addr: n}
			for i := range m.Mmu.Pages {
				for page := range m.Mmu.Pages[i] {
					m.Mmu.Pages[i][page] = api.Page{Base: n, Length: n, Access: n}
				}
			}
			m.PowerTrap, m.Waiting = on, !on
			l = append(l, m)
		}
		m = begun(n, n, n)
		m.Mem[2], m.Mem[3], m.Bad = n, n, []int{n, 4, n}
		l = append(l, m)
		m.Lines = []api.Line{{RxData: n, TxData: n, TxLeft: n}}
		m.Disk = api.Disk{Command: n, Words: n, Addr: n, Start: n, Left: n}
		m.Tape = api.Tape{Pos: n, Command: n, Count: n, Addr: n, Left: n}
		m.Clock = api.Clock{Period: n, Left: n}
		l = append(l, m)
	}
	return l
}

func TestInvalidMachines(t *testing.T) {
	for _, m := range invalidMachines() {
		for _, n := range farInts {
			machine.Type(m, n, n)
			machine.Type(m, 0, n)
			machine.Fail(m, n)
			machine.Run(m, min(n, 0))
		}
		for _, c := range calls() {
			c.do(m)
		}
	}
}
