package bus_test

import (
	"math"
	"reflect"
	"slices"
	"testing"

	"emulator/api"
	"emulator/bus"
)

// list is a list of a machine.
type list interface {
	// values returns a copy of the list, with what lies behind its end.
	values() any
	// scribble changes all of that.
	scribble()
}

// part is a list with elements of some type, and a function that changes one of them.
type part[E any] struct {
	l      []E
	change func(e *E)
}

func (p part[E]) values() any { return slices.Clone(p.l[:cap(p.l)]) }

func (p part[E]) scribble() {
	for i := range p.l[:cap(p.l)] {
		p.change(&p.l[:cap(p.l)][i])
	}
}

// lists returns the lists of a machine.
func lists(m api.Machine) []list {
	count := func(n *int) { *n += 1000 }
	spell := func(s *string) { *s += "x" }
	return []list{
		part[int]{m.Mem, count}, part[int]{m.Bad, count}, part[api.Line]{m.Lines, func(l *api.Line) { l.RxData += 1000 }},
		part[string]{m.Disk.Drive.Sectors, spell}, part[int]{m.Disk.Drive.Bad, count}, part[string]{m.Tape.Records, spell},
	}
}

// valuesOf returns copies of lists.
func valuesOf(l []list) []any {
	var all []any
	for _, x := range l {
		all = append(all, x.values())
	}
	return all
}

// roomy returns a copy of a list, behind whose end lie others of its elements.
func roomy[E any](l []E) []E {
	room := slices.Concat(l, l, l)
	return room[:len(l):min(cap(room), len(l)+3)]
}

// withRoom returns a machine whose lists are roomy.
func withRoom(m api.Machine) api.Machine {
	m.Mem, m.Bad, m.Lines = roomy(m.Mem), roomy(m.Bad), roomy(m.Lines)
	m.Disk.Drive.Sectors, m.Disk.Drive.Bad = roomy(m.Disk.Drive.Sectors), roomy(m.Disk.Drive.Bad)
	m.Tape.Records = roomy(m.Tape.Records)
	return m
}

// call is a call with a machine that returns one.
type call struct {
	name string
	do   func(m api.Machine) api.Machine
}

// calls has calls of all functions that return a machine: memory and registers are read and written with and without traps.
func calls() []call {
	l := []call{{"Tick", bus.Tick}, {"Reset", bus.Reset}}
	for _, vector := range []int{0, 64, 128, 132, 160, 164} {
		l = append(l, call{"Accept", func(m api.Machine) api.Machine { return bus.Accept(m, vector) }})
	}
	for _, phys := range []int{0, 6, 7, 41, 254, 255, 256, 5000, ioBase - 1, ioBase, ioBase + 16, ioBase + 18, ioBase + 79, ioBase + 256, ioBase + 257, ioBase + 512, ioBase + 514, ioBase + 516, ioBase + 518, ioBase + 519, ioBase + 600, ioBase + 768, ioBase + 770, ioBase + 774, ioBase + 800, ioBase + 804, ioBase + 8191, -1, -physBytes} {
		for _, byte := range bools {
			l = append(l, call{"Read", func(m api.Machine) api.Machine { x, _, _ := bus.Read(m, phys, byte); return x }})
			for _, v := range []int{0, 67, 0x1234} {
				l = append(l, call{"Write", func(m api.Machine) api.Machine { x, _ := bus.Write(m, phys, byte, v); return x }})
			}
		}
	}
	return l
}

// moreMachines returns machines in which transfers end with the next tick, in all ways in which they may.
func moreMachines() []api.Machine {
	l := slices.Concat(machines(0), machines(1), machines(4))
	for command := range 3 {
		for tapeCommand := range 7 {
			for _, addr := range []int{20, 250} {
				m := inUse(256, 2)
				m.Disk = diskBusy(command+1, 5, addr, 1, 1)
				m.Tape = tapeBusy(tapeCommand, 80, addr+11, 2, 1)
				l = append(l, m)
			}
		}
	}
	return l
}

func TestListsOfTheTest(t *testing.T) {
	m := withRoom(inUse(256, 3))
	for i, l := range lists(m) {
		before := valuesOf(lists(m))
		l.scribble()
		for j, v := range valuesOf(lists(m)) {
			if reflect.DeepEqual(v, before[j]) != (i != j) {
				t.Errorf("changing list %d, list %d: %v", i, j, i != j)
			}
		}
	}
	n := 0
	eachField(reflect.ValueOf(&m).Elem(), "", func(name string, v reflect.Value) {
		if v.Kind() == reflect.Slice {
			n++
		}
	})
	if n != len(lists(m)) {
		t.Errorf("a machine has %d lists", n)
	}
	if !same(withRoom(quiet(256, 1)), quiet(256, 1)) || !same(withRoom(inUse(4096, 4)), inUse(4096, 4)) {
		t.Error("a roomy machine is another one")
	}
}

func TestArgumentsStay(t *testing.T) {
	for _, m := range moreMachines() {
		for _, c := range calls() {
			given := withRoom(m)
			before := valuesOf(lists(given))
			c.do(given)
			bus.Right(given)
			bus.Requests(given)
			if !reflect.DeepEqual(valuesOf(lists(given)), before) {
				t.Fatalf("%s changes lists that it was given", c.name)
			}
		}
	}
}

func TestResultsAreNewMemory(t *testing.T) {
	for _, m := range moreMachines() {
		for _, c := range calls() {
			given := withRoom(m)
			before := valuesOf(lists(given))
			got := lists(c.do(given))
			for i := range got {
				others := valuesOf(got)
				got[i].scribble()
				now := valuesOf(got)
				for j := range got {
					if j != i && !reflect.DeepEqual(now[j], others[j]) {
						t.Fatalf("%s: the lists %d and %d share memory", c.name, i, j)
					}
				}
			}
			if !reflect.DeepEqual(valuesOf(lists(given)), before) {
				t.Fatalf("%s: the result shares memory with the argument", c.name)
			}
		}
	}
}

func TestRequestsAreNewMemory(t *testing.T) {
	m := requesting(256, 4)
	a := bus.Requests(m)
	want := slices.Clone(a)
	clear(a[:cap(a)])
	if got := bus.Requests(m); !slices.Equal(got, want) || len(want) != 11 {
		t.Errorf("requests after others have been changed: %v", got)
	}
}

// P18.7: validity.

func TestResultsAreValid(t *testing.T) {
	for _, m := range moreMachines() {
		for _, c := range calls() {
			if !bus.Right(c.do(m)) {
				t.Fatalf("%s returns a machine that is not valid", c.name)
			}
		}
	}
}

func TestTrapsLeaveTheMachine(t *testing.T) {
	for _, m := range moreMachines() {
		for _, phys := range []int{-1, 256 + 4096, 32768, ioBase - 1, ioBase + 4, ioBase + 80, ioBase + 258, ioBase + 544, ioBase + 776, ioBase + 806, ioBase + 8190} {
			for _, byte := range bools {
				expectRead(t, m, phys, byte, m, 0, api.TrBus)
				expectWrite(t, m, phys, byte, 0xFFFF, m, api.TrBus)
			}
		}
		for _, phys := range []int{1, 255, ioBase + 1, ioBase + 257, ioBase + 515, ioBase + 519, ioBase + 769, ioBase + 801} {
			expectRead(t, m, phys, false, m, 0, api.TrBus)
			expectWrite(t, m, phys, false, 0xFFFF, m, api.TrBus)
		}
	}
}

// invalidMachines returns machines of which parts are not valid, each alone, and many together.
func invalidMachines() []api.Machine {
	l := []api.Machine{{}, quiet(256, 5), inUse(256, 5), requesting(256, 40), quiet(256, 1000), {Lines: make([]api.Line, 3)}, {Bad: []int{5, 3, -1}}}
	all := spoilers()
	for i, s := range all {
		for _, build := range []func(size, lines int) api.Machine{quiet, inUse, requesting} {
			m := build(256, 2)
			s.spoil(&m)
			l = append(l, m)
			x := kept(m)
			all[(i+7)%len(all)].spoil(&x)
			l = append(l, x)
		}
	}
	for _, n := range []int{math.MinInt, -1 << 40, -65537, -1, 1, 2, 8, 16, 65536, 1 << 40, math.MaxInt} {
		l = append(l, extremeMachines(n)...)
	}
	return l
}

// extremeMachines returns machines whose numbers are all n, and whose devices are in all phases and have all commands.
func extremeMachines(n int) []api.Machine {
	m := inUse(256, 2)
	for i := range m.Mem {
		m.Mem[i] = n
	}
	m.Bad = []int{n, n, 4, n}
	m.Mmu.Status, m.Mmu.Addr = n, n
	m.Mmu.Pages[0][1] = api.Page{Base: n, Length: n, Access: n}
	m.Clock.Period, m.Clock.Left = n, n
	m.Lines[0].RxData, m.Lines[0].TxData, m.Lines[0].TxLeft = n, n, n
	m.Disk.Drive = api.Drive{Sectors: []string{"a", "", text(200, 1)}, Bad: []int{n, 1, n}}
	m.Disk.Command, m.Disk.Words, m.Disk.Addr, m.Disk.Start, m.Disk.Left = n, n, n, n, n
	m.Tape.Pos, m.Tape.Command, m.Tape.Count, m.Tape.Addr, m.Tape.Left = n, n, n, n, n
	m.Now, m.Power = n, n
	l := []api.Machine{m}
	for command := range 8 {
		x := kept(m)
		x.Disk.Command, x.Disk.Left, x.Tape.Command, x.Tape.Left = command, 1, command, 1
		y := kept(x)
		y.Disk.Start, y.Tape.Pos = command%4, command%3
		z := kept(y)
		z.Disk.Addr, z.Tape.Addr, z.Bad = 254, 255, nil
		w := kept(z)
		w.Disk.Words, w.Tape.Count = 5, 5
		l = append(l, x, y, z, w)
	}
	return l
}

func TestInvalidMachines(t *testing.T) {
	all := calls()
	for _, m := range invalidMachines() {
		if bus.Right(m) {
			t.Fatal("a machine of the test is valid")
		}
		for _, c := range all {
			// No result is promised, but there is one, without a panic and without a change of the argument.
			given := kept(m)
			c.do(given)
			bus.Requests(given)
			if !same(given, m) {
				t.Fatalf("%s changes a machine that is not valid", c.name)
			}
		}
		for _, phys := range farInts {
			bus.Read(m, phys, true)
			bus.Write(m, phys, false, phys)
			bus.Accept(m, phys)
		}
	}
}
