package bus_test

import (
	"slices"
	"testing"

	"emulator/api"
	"emulator/bus"
	"emulator/clock"
	"emulator/diskctl"
	"emulator/line"
	"emulator/memory"
	"emulator/mmu"
	"emulator/tape"
)

// model is a machine whose memory is kept as bytes, each of which may be bad together with the other one of its word, and whose devices are kept apart from one another. Registers are found by arithmetic.
type model struct {
	bytes []int
	bad   map[int]bool // by the number of the word
	rest  api.Machine  // the processor and the time
	unit  api.Mmu
	clock api.Clock
	lines [4]api.Line
	n     int // lines
	disk  api.Disk
	tape  api.Tape
}

func modelOf(m api.Machine) *model {
	x := &model{bad: map[int]bool{}, rest: m, unit: m.Mmu, clock: m.Clock, n: len(m.Lines), disk: m.Disk, tape: m.Tape}
	for _, w := range m.Mem {
		x.bytes = append(x.bytes, w%256, w/256)
	}
	for _, addr := range m.Bad {
		x.bad[addr/2] = true
	}
	copy(x.lines[:], m.Lines)
	return x
}

// memory returns the words and the bad addresses.
func (x *model) memory() ([]int, []int) {
	var mem, bad []int
	for i := 0; i < len(x.bytes); i += 2 {
		mem = append(mem, x.bytes[i]+256*x.bytes[i+1])
		if x.bad[i/2] {
			bad = append(bad, i)
		}
	}
	return mem, bad
}

// setMemory takes words and bad addresses.
func (x *model) setMemory(mem, bad []int) {
	for i, w := range mem {
		x.bytes[2*i], x.bytes[2*i+1] = w%256, w/256
	}
	clear(x.bad)
	for _, addr := range bad {
		x.bad[addr/2] = true
	}
}

// machine returns the machine that the model describes.
func (x *model) machine() api.Machine {
	m := x.rest
	m.Mem, m.Bad = x.memory()
	m.Mmu, m.Clock, m.Lines, m.Disk, m.Tape = x.unit, x.clock, x.lines[:x.n], x.disk, x.tape
	return m
}

// load returns what a read gives.
func (x *model) load(phys int, byte bool) (int, api.Trap) {
	phys = remainder(phys, physBytes)
	half := phys % 2
	if half == 1 && !byte {
		return 0, api.TrBus
	}
	v, trap := 0, api.TrBus
	switch {
	case phys >= ioBase:
		v, trap = x.loadRegister(phys - half - ioBase)
	case phys < len(x.bytes) && x.bad[phys/2]:
		trap = api.TrParity
	case phys < len(x.bytes):
		v, trap = x.bytes[phys-half]+256*x.bytes[phys-half+1], api.TrNone
	}
	if byte {
		v = []int{v % 256, v / 256}[half]
	}
	return v, trap
}

// loadRegister returns the contents of a register.
func (x *model) loadRegister(offset int) (int, api.Trap) {
	v, ok := 0, true
	switch {
	case offset < 256:
		v, ok = mmu.Read(x.unit, offset)
	case offset == 256:
		v = clock.Read(x.clock)
	case offset >= 512 && offset < 512+8*x.n:
		i := (offset - 512) / 8
		x.lines[i], v = line.Read(x.lines[i], (offset-512)%8)
	case offset >= 768 && offset < 800:
		v, ok = diskctl.Read(x.disk, offset-768)
	case offset >= 800:
		v, ok = tape.Read(x.tape, offset-800)
	default:
		ok = false
	}
	if !ok {
		return 0, api.TrBus
	}
	return v, api.TrNone
}

// store changes the model by a write.
func (x *model) store(phys int, byte bool, v int) api.Trap {
	phys = remainder(phys, physBytes)
	if phys >= ioBase {
		return x.storeRegister(phys-ioBase, remainder(v, map[bool]int{false: 65536, true: 256}[byte]))
	}
	if phys >= len(x.bytes) || phys%2 == 1 && !byte {
		return api.TrBus
	}
	x.bytes[phys] = remainder(v, 256)
	if !byte {
		x.bytes[phys+1] = remainder(v, 65536) / 256
	}
	x.bad[phys/2] = false
	return api.TrNone
}

// storeRegister changes the model by a write of a register.
func (x *model) storeRegister(offset, v int) api.Trap {
	ok := offset%2 == 0
	switch {
	case !ok:
	case offset < 256:
		x.unit, ok = mmu.Write(x.unit, offset, v)
	case offset == 256:
		x.clock = clock.Write(x.clock, v)
	case offset >= 512 && offset < 512+8*x.n:
		i := (offset - 512) / 8
		x.lines[i] = line.Write(x.lines[i], (offset-512)%8, v)
	case offset >= 768 && offset < 776:
		x.disk, _ = diskctl.Write(x.disk, offset-768, v)
	case offset >= 800:
		x.tape, ok = tape.Write(x.tape, offset-800, v)
	default:
		ok = false
	}
	if !ok {
		return api.TrBus
	}
	return api.TrNone
}

// tick lets a tick pass.
func (x *model) tick() {
	mem, bad := x.memory()
	x.disk, mem, bad = diskctl.Tick(x.disk, mem, bad)
	x.tape, mem, bad = tape.Tick(x.tape, mem, bad)
	x.setMemory(mem, bad)
	for i := range x.n {
		x.lines[i] = line.Tick(x.lines[i])
	}
	x.clock = clock.Tick(x.clock)
}

// requests returns the requests of the devices.
func (x *model) requests() []api.Request {
	l := slices.Concat(clock.Requests(x.clock), diskctl.Requests(x.disk), tape.Requests(x.tape))
	for i := range x.n {
		l = append(l, line.Requests(x.lines[i], i)...)
	}
	return l
}

// accept changes the model by an accepted interrupt.
func (x *model) accept(vector int) {
	switch vector {
	case 64:
		x.clock.Ready = false
	case 160:
		x.disk.Enable = false
	case 164:
		x.tape.Enable = false
	}
}

// reset resets the devices.
func (x *model) reset() {
	x.unit = api.Mmu{}
	x.clock = clock.Reset(x.clock)
	for i := range x.n {
		x.lines[i] = line.Reset(x.lines[i])
	}
	x.disk, x.tape = diskctl.Reset(x.disk), tape.Reset(x.tape)
}

// numbers is a source of numbers, always the same ones.
type numbers uint64

// below returns a number from 0 to n - 1.
func (s *numbers) below(n int) int {
	*s = *s*6364136223846793005 + 1442695040888963407
	return int(uint64(*s)>>33) % n
}

// run is a machine in a run of calls, with its model and counts of what has happened.
type run struct {
	t         *testing.T
	s         numbers
	m         api.Machine
	x         *model
	happened  map[string]int
	registers []int
}

// address returns an address: mostly in memory or of a register, often beside them.
func (r *run) address() int {
	size := 2 * len(r.m.Mem)
	phys := 0
	switch r.s.below(10) {
	case 0:
		phys = r.s.below(physBytes)
	case 1:
		phys = size - 4 + r.s.below(8)
	case 2, 3, 4:
		phys = r.s.below(size)
	case 5:
		phys = ioBase + r.s.below(830)
	case 6:
		phys = ioBase - 4 + r.s.below(8)
	default:
		phys = ioBase + r.registers[r.s.below(len(r.registers))] + r.s.below(8)/7
	}
	return phys + laps[r.s.below(len(laps))]
}

// value returns a value that is written.
func (r *run) value() int {
	switch r.s.below(6) {
	case 0:
		return farInts[r.s.below(len(farInts))]
	case 1:
		return 64 + 1 + 2*r.s.below(8)
	case 2:
		return 1 + 2*r.s.below(8)
	case 3:
		return r.s.below(2 * len(r.m.Mem))
	case 4:
		return r.s.below(300)
	}
	return r.s.below(70000) - 2000
}

// step makes a call, and compares its results with those of the model.
func (r *run) step() {
	before := r.m
	switch n := r.s.below(100); {
	case n < 28:
		r.read()
	case n < 55:
		r.write()
	case n < 90:
		r.m = bus.Tick(r.m)
		r.x.tick()
		r.count("tick that changes memory", !slices.Equal(before.Mem, r.m.Mem))
		r.count("tick that changes parity", !slices.Equal(before.Bad, r.m.Bad))
		r.count("tick that ends a transfer of the disk", before.Disk.Left != 0 && r.m.Disk.Ready)
		r.count("tick that ends a command of the tape", before.Tape.Left != 0 && r.m.Tape.Ready)
		r.count("tick that ends both", before.Disk.Left == 1 && before.Tape.Left == 1)
		r.count("tick that ends a period", r.m.Clock.Left == r.m.Clock.Period)
	case n < 95:
		vector := []int{64, 160, 164, 128, 132, 140, 0, 63}[r.s.below(8)]
		r.m = bus.Accept(r.m, vector)
		r.x.accept(vector)
		r.count("accepted interrupt", !same(before, r.m))
	case n < 97:
		r.disturb()
	case n == 97 && r.s.below(3) == 0:
		r.m = bus.Reset(r.m)
		r.x.reset()
		r.count("reset that ends a transfer", before.Disk.Left != 0 && r.m.Disk.Ready)
	case n == 98:
		r.begin()
	}
	r.compare()
}

// begin lets the disk and the tape begin something with registers that fit, so that many transfers have no error and end together.
func (r *run) begin() {
	size := 2 * len(r.m.Mem)
	for _, w := range []struct{ offset, v int }{
		{770, 1 + r.s.below(64)}, {772, r.s.below(size / 2)}, {774, r.s.below(4)}, {802, 1 + r.s.below(120)}, {804, r.s.below(size / 2)},
		{768, 1 + 2*(1+r.s.below(3))}, {800, 1 + 2*(1+r.s.below(6))},
	} {
		if w.offset == 768 && r.s.below(2) == 0 {
			// The disk begins with the other half of the ticks of the tape.
			r.store(ioBase+800, false, 1+2*(1+r.s.below(6)))
			for range 8 {
				r.m = bus.Tick(r.m)
				r.x.tick()
				r.compare()
			}
		}
		r.store(ioBase+w.offset, false, w.v)
	}
}

// disturb changes the machine from outside: a byte is typed, or a word loses its parity.
func (r *run) disturb() {
	if r.x.n > 0 && r.s.below(2) == 0 {
		i, b := r.s.below(r.x.n), r.s.below(256)
		r.m = kept(r.m)
		r.m.Lines[i] = line.Type(r.m.Lines[i], b)
		r.x.lines[i] = line.Type(r.x.lines[i], b)
		return
	}
	addr := 2 * r.s.below(len(r.m.Mem))
	r.m.Bad, _ = memory.Spoil(r.m.Mem, r.m.Bad, addr)
	r.x.bad[addr/2] = true
}

// read reads a word or a byte.
func (r *run) read() {
	phys, byte := r.address(), r.s.below(2) == 0
	before := r.m
	m, v, trap := bus.Read(r.m, phys, byte)
	want, f := r.x.load(phys, byte)
	if v != want || trap != f {
		r.t.Fatalf("Read(%d, %v): %d, trap %d, want %d, trap %d", phys, byte, v, trap, want, f)
	}
	r.m = m
	place, changed := r.place(phys), !same(before, m)
	r.count("read with a trap", trap != api.TrNone)
	r.count("read with a parity trap", trap == api.TrParity)
	r.count("read of memory", place == "memory" && trap == api.TrNone)
	r.count("read of a register", place == "register" && trap == api.TrNone)
	r.count("read that changes a line", place == "register" && changed)
	if changed && (place == "memory" || trap != api.TrNone) {
		r.t.Fatalf("Read(%d, %v) changes %s", phys, byte, differences(before, m))
	}
}

// write writes a word or a byte.
func (r *run) write() {
	r.store(r.address(), r.s.below(2) == 0, r.value())
}

// store writes a value at an address.
func (r *run) store(phys int, byte bool, v int) {
	before := r.m
	m, trap := bus.Write(r.m, phys, byte, v)
	if f := r.x.store(phys, byte, v); trap != f {
		r.t.Fatalf("Write(%d, %v, %d): trap %d, want %d", phys, byte, v, trap, f)
	}
	r.m = m
	place, changed := r.place(phys), !same(before, m)
	r.count("write with a trap", trap != api.TrNone)
	r.count("write of memory", place == "memory" && changed)
	r.count("write that makes parity right", place == "memory" && len(m.Bad) < len(before.Bad))
	r.count("write of a register", place == "register" && changed)
	if changed && trap != api.TrNone {
		r.t.Fatalf("Write(%d, %v, %d) with a trap changes %s", phys, byte, v, differences(before, m))
	}
	if place == "register" && (!slices.Equal(m.Mem, before.Mem) || !slices.Equal(m.Bad, before.Bad)) {
		r.t.Fatalf("Write(%d, %v, %d) of a register changes memory", phys, byte, v)
	}
	if place == "memory" && trap == api.TrNone {
		r.expectOnly(before, remainder(phys, physBytes)/2)
	}
}

// expectOnly checks that only a word and its parity have changed.
func (r *run) expectOnly(before api.Machine, word int) {
	now := kept(r.m)
	now.Mem[word] = before.Mem[word]
	spoilt := func(addr int) bool { return addr == 2*word }
	if slices.ContainsFunc(now.Bad, spoilt) {
		r.t.Fatalf("the word at %d is still bad", 2*word)
	}
	now.Bad = slices.DeleteFunc(slices.Clone(before.Bad), spoilt)
	if !slices.Equal(now.Bad, r.m.Bad) {
		r.t.Fatalf("bad are %v after the word at %d was written, before %v", r.m.Bad, 2*word, before.Bad)
	}
	now.Bad = before.Bad
	if !same(now, before) {
		r.t.Fatalf("writing the word at %d changes %s", 2*word, differences(now, before))
	}
}

// place returns what is at an address.
func (r *run) place(phys int) string {
	phys = remainder(phys, physBytes)
	switch {
	case phys >= ioBase:
		return "register"
	case phys < 2*len(r.m.Mem):
		return "memory"
	}
	return "nothing"
}

// count counts what has happened.
func (r *run) count(what string, yes bool) {
	if yes {
		r.happened[what]++
	}
}

// compare compares the machine with the model.
func (r *run) compare() {
	r.t.Helper()
	if want := r.x.machine(); !same(r.m, want) {
		r.t.Fatalf("wrong are %s", differences(r.m, want))
	}
	if !bus.Right(r.m) {
		r.t.Fatal("the machine is not valid")
	}
	got := bus.Requests(r.m)
	if want := r.x.requests(); !slices.Equal(got, want) {
		r.t.Fatalf("requests %v, want %v", got, want)
	}
	r.count("request", len(got) > 0)
	r.count("requests of several devices", len(got) > 2)
}

func TestLongRuns(t *testing.T) {
	for i, c := range []struct{ size, lines, calls int }{{256, 0, 12000}, {256, 4, 12000}, {320, 1, 12000}, {512, 2, 12000}, {1024, 3, 12000}, {4096, 4, 4000}, {32768, 4, 1000}} {
		m := quiet(c.size, c.lines)
		if i%2 == 1 {
			m = inUse(c.size, c.lines)
		}
		m.Clock.Period, m.Clock.Left = 17+i, 5
		r := &run{t: t, s: numbers(1000 + i), m: m, x: modelOf(m), happened: map[string]int{}}
		for _, reg := range registersOf(c.lines) {
			r.registers = append(r.registers, reg.offset)
		}
		// The registers of devices come as often as those of memory management.
		for range 4 {
			r.registers = append(r.registers, r.registers[34:]...)
		}
		for range c.calls {
			r.step()
		}
		r.expectAll(c.size, c.lines, c.calls)
	}
}

// expectAll checks that everything has happened in a run.
func (r *run) expectAll(size, lines, calls int) {
	for _, what := range []string{"tick that changes memory", "tick that changes parity", "tick that ends a transfer of the disk", "tick that ends a command of the tape", "tick that ends both", "tick that ends a period", "accepted interrupt", "reset that ends a transfer",
		"read with a trap", "read with a parity trap", "read of memory", "read of a register", "read that changes a line", "write with a trap", "write of memory", "write that makes parity right", "write of a register", "request", "requests of several devices"} {
		least := 3
		switch {
		case what == "read that changes a line" && lines == 0:
			least = 0
		case calls < 12000:
			least = 0
		}
		if r.happened[what] < least {
			r.t.Errorf("%d bytes, %d lines: %d times: %s", size, lines, r.happened[what], what)
		}
	}
}

func TestEarlierMachinesStay(t *testing.T) {
	// All machines of a run are kept, and compared with their copies at its end.
	m := inUse(512, 3)
	r := &run{t: t, s: 77, m: m, x: modelOf(m), happened: map[string]int{}}
	for _, reg := range registersOf(3) {
		r.registers = append(r.registers, reg.offset)
	}
	var all, copies []api.Machine
	for range 2000 {
		r.step()
		all = append(all, r.m)
		copies = append(copies, kept(r.m))
	}
	for i := range all {
		if !same(all[i], copies[i]) {
			t.Fatalf("the machine of call %d has changed: %s", i, differences(all[i], copies[i]))
		}
	}
}
