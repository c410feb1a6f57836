package tape_test

import (
	"math"
	"slices"
	"testing"

	"emulator/api"
	"emulator/memory"
	"emulator/tape"
)

// All calls: what they are given stays as it is, and what they return is new memory.

// state is what Tick is given and returns.
type state struct {
	u        api.Tape
	mem, bad []int
}

// copyOf returns a copy of a state.
func (s state) copyOf() state {
	return state{kept(s.u), slices.Clone(s.mem), slices.Clone(s.bad)}
}

// equal reports whether two states are equal.
func (s state) equal(o state) bool {
	return same(s.u, o.u) && slices.Equal(s.mem, o.mem) && slices.Equal(s.bad, o.bad)
}

// roomy returns a copy of a list with values behind its end.
func roomy[T any](l []T, behind T) []T {
	r := slices.Clone(l)
	for range 5 {
		r = append(r, behind)
	}
	return r[:len(l)]
}

// roomyState returns a copy of a state with memory behind the ends of its lists, into which nobody may write.
func roomyState(s state) state {
	s.u.Records = roomy(s.u.Records, "behind")
	return state{s.u, roomy(s.mem, -78), roomy(s.bad, -79)}
}

// whole returns the state with what lies behind the ends of its lists.
func whole(s state) state {
	s.u.Records = s.u.Records[:cap(s.u.Records)]
	return state{s.u, s.mem[:cap(s.mem)], s.bad[:cap(s.bad)]}
}

// fill sets all elements of a list, and the memory behind its end.
func fill[T any](l []T, v T) {
	l = l[:cap(l)]
	for i := range l {
		l[i] = v
	}
}

// lists returns functions that overwrite each of the lists of a state.
func lists(s state) []func() {
	return []func(){
		func() { fill(s.u.Records, "overwritten") },
		func() { fill(s.mem, -6) },
		func() { fill(s.bad, -7) },
	}
}

// overwrite changes all lists of a state.
func overwrite(s state) {
	for _, f := range lists(s) {
		f()
	}
}

// ticking returns states of valid units and memories whose next tick carries a command out, or does not.
func ticking() []state {
	var all []state
	for _, p := range slices.Concat(positions(), heads()) {
		for _, mem := range [][]int{words(256), words(1024)} {
			for _, bad := range [][]int{nil, {2, 4}, {98, 100, 102, 254}} {
				for command := range 7 {
					for _, v := range [][2]int{{1, 100}, {3, 101}, {512, 0}, {600, 255}} {
						for _, left := range []int{0, 1, 2, 16} {
							u := busy(p.Records, p.Pos, command, v[0], v[1], left)
							u.Ready = left == 0
							all = append(all, state{u, mem, bad})
						}
					}
				}
			}
		}
	}
	return all
}

// wrongTapes returns tapes that are not valid, or whose heads are not on them.
func wrongTapes() []api.Tape {
	full := fullReel()
	all := []api.Tape{{Records: append(full, "")}, {Records: append(full, ""), Pos: 64}, {Records: append(full, ""), Pos: 65}, {Records: make([]string, 1000), Pos: 70}, {Records: []string{text(513, 1)}}, {Records: []string{text(513, 1)}, Pos: 1}, {Records: []string{"a", text(70000, 1), ""}, Pos: 1}}
	for _, records := range [][]string{nil, reel(2, 0, 1), full} {
		for _, pos := range append([]int{-2, -1, len(records) + 1, len(records) + 2, 64, 65}, farInts...) {
			all = append(all, api.Tape{Records: records, Pos: pos})
		}
	}
	return all
}

// wrongStates returns states that are not valid, in their units or in their memories.
func wrongStates() []state {
	var all []state
	for _, p := range wrongTapes() {
		for command := -1; command <= 7; command++ {
			for _, left := range []int{1, 2} {
				all = append(all, state{busy(p.Records, p.Pos, command, 2, 9, left), words(256), []int{4, 8}})
			}
			u := idle(p.Records, p.Pos, 2, 9)
			u.Command = command
			all = append(all, state{u, words(256), nil})
		}
	}
	for _, n := range append([]int{-4, -3, -2, -1, 0, 1, 2, 3, 4, 7, 16, 17, 65, 512, 65535}, farInts...) {
		for command := 1; command <= 6; command++ {
			for pos := range 4 {
				for _, change := range []func(u *api.Tape){
					func(u *api.Tape) { u.Command = n }, func(u *api.Tape) { u.Count = n }, func(u *api.Tape) { u.Addr = n }, func(u *api.Tape) { u.Left = n },
					func(u *api.Tape) { u.Command, u.Count, u.Addr, u.Pos = n, n, n, n },
					func(u *api.Tape) { u.Count, u.Addr = n, -n },
					func(u *api.Tape) { u.Count, u.Addr = 9-n, n },
				} {
					u := busy(reel(2, 0, 1), pos, command, 2, 9, 1)
					change(&u)
					all = append(all, state{u, words(256), []int{4, 8}})
					u.Ready = true
					all = append(all, state{u, words(256), nil})
				}
			}
		}
	}
	for command := range 7 {
		for _, mem := range [][]int{nil, {}, {1}, {-1, 65536, math.MaxInt, math.MinInt}, slices.Repeat([]int{-1}, 128), slices.Repeat([]int{math.MaxInt}, 200), words(254), words(32770), words(65536), words(70000)} {
			for _, bad := range [][]int{nil, {0}, {-2, -1, 1, 3, 127}, {math.MinInt, math.MaxInt}, {130, 128, 128, 2, 0}, upTo(-10, 300)} {
				for _, addr := range []int{0, 1, 2, 128, 252, 255, 256, 32768, 65534, 65535} {
					for _, count := range []int{1, 3, 512} {
						all = append(all, state{busy(reel(2, 0, 1), 2, command, count, addr, 1), mem, bad})
					}
				}
			}
		}
	}
	return all
}

// results returns the states that all calls return for one. Those without a memory have none.
func results(s state) []state {
	u, mem, bad := tape.Tick(s.u, s.mem, s.bad)
	made, _ := tape.New(s.u.Records)
	all := []state{{u, mem, bad}, {u: made}, {u: tape.Reset(s.u)}, {u: tape.Mount(s.u)}, {u: tape.Accept(s.u, 164)}, {u: tape.Accept(s.u, 160)}, {u: tape.Accept(s.u, math.MinInt)}}
	for _, reg := range []int{-1, 0, 2, 3, 4, 6, math.MinInt, math.MaxInt} {
		for _, v := range []int{0, 3, 71, 65535, -1, math.MinInt} {
			x, _ := tape.Write(s.u, reg, v)
			all = append(all, state{u: x})
		}
	}
	return all
}

// otherCalls makes the calls that return no units.
func otherCalls(u api.Tape) {
	tape.Right(u)
	tape.Requests(u)
	for _, reg := range []int{-1, 0, 2, 4, 6, math.MinInt, math.MaxInt} {
		tape.Read(u, reg)
	}
}

func TestStates(t *testing.T) {
	var moved, stored, appended int
	for _, s := range ticking() {
		if !tape.Right(s.u) || !memory.Right(s.mem, s.bad) {
			t.Errorf("not valid: %s", describe(s.u, s.mem, s.bad))
		}
		u, mem, _ := checkTick(t, s.u, s.mem, s.bad)
		if u.Pos != s.u.Pos {
			moved++
		}
		if !slices.Equal(mem, s.mem) {
			stored++
		}
		if !slices.Equal(u.Records, s.u.Records) {
			appended++
		}
	}
	if moved < 500 || stored < 50 || appended < 200 {
		t.Errorf("only %d states move the head, %d store a record, %d append one", moved, stored, appended)
	}
	wrong := 0
	for _, s := range wrongStates() {
		if !tape.Right(s.u) || !memory.Right(s.mem, s.bad) {
			wrong++
		}
	}
	if wrong < 5000 {
		t.Errorf("only %d wrong states", wrong)
	}
}

func TestArgumentsStayAsTheyAre(t *testing.T) {
	for _, s := range append(ticking(), wrongStates()...) {
		s := roomyState(s)
		before := whole(s).copyOf()
		otherCalls(s.u)
		all := results(s)
		if !whole(s).equal(before) {
			t.Fatalf("changed by a call: %s", describe(s.u, s.mem, s.bad))
		}
		// What the caller does with the results does not change the arguments either.
		for _, x := range all {
			overwrite(x)
		}
		if !whole(s).equal(before) {
			t.Fatalf("changed with a result: %s", describe(s.u, s.mem, s.bad))
		}
	}
}

func TestResultsAreNewMemory(t *testing.T) {
	for _, s := range ticking() {
		s := s.copyOf()
		all := results(s)
		var before []state
		for _, x := range all {
			before = append(before, x.copyOf())
		}
		again := results(s)
		overwrite(s)
		for i, x := range all {
			if !x.equal(before[i]) || !again[i].equal(before[i]) {
				t.Fatalf("result %d shares memory with an argument: %s", i, show(s.u))
			}
		}
		for i, x := range all {
			overwrite(x)
			if !again[i].equal(before[i]) {
				t.Fatalf("result %d shares memory with that of another call: %s", i, show(s.u))
			}
		}
	}
}

func TestListsOfAResultAreApart(t *testing.T) {
	for _, s := range ticking() {
		for list := range lists(s) {
			u, mem, bad := tape.Tick(s.u, s.mem, s.bad)
			x := state{u, mem, bad}
			want := x.copyOf()
			lists(x)[list]()
			lists(want)[list]()
			if !x.equal(want) {
				t.Fatalf("list %d of a result shares memory with another one: %s", list, show(s.u))
			}
		}
	}
}

func TestListsOfAnArgumentMayBeOne(t *testing.T) {
	// A caller may give the same list as memory and as bad addresses.
	l := make([]int, 128)
	for i := range l {
		l[i] = 2 * i
	}
	u, mem, bad := tape.Tick(busy([]string{"abc"}, 0, 1, 3, 3, 1), l, l)
	if s, _ := memory.Bytes(mem, 2, 6); s != "\x02abc\x06\x00" || !slices.Equal(bad, append([]int{0}, l[3:]...)) || u.Count != 0 || l[1] != 2 || l[2] != 4 {
		t.Errorf("%q, bad addresses %v, %s", s, bad, show(u))
	}
}

func TestRequestsAreNewMemory(t *testing.T) {
	u := with(idle(nil, 0, 0, 0), flags{enable: true})
	first, second := tape.Requests(u), tape.Requests(u)
	fill(first, api.Request{Priority: 1, Vector: 2})
	if third := tape.Requests(u); second[0] != (api.Request{Priority: 5, Vector: 164}) || third[0] != second[0] {
		t.Errorf("requests %v, %v", second, third)
	}
}

func TestAppendingToAResult(t *testing.T) {
	// Two states that follow from one must not write their further elements to the same place.
	u, mem, bad := tape.Tick(busy([]string{"ab", "cd", "ef"}, 1, 1, 3, 5, 1), words(256), []int{0, 4, 6, 10})
	if !slices.Equal(bad, []int{0, 10}) {
		t.Fatalf("bad addresses %v", bad)
	}
	a, b := tape.Reset(u), tape.Mount(u)
	a.Records = append(a.Records, "x")
	b.Records = append(b.Records, "y")
	x, y := append(bad, 12), append(mem, 5)
	if !slices.Equal(a.Records, []string{"ab", "cd", "ef", "x"}) || !slices.Equal(b.Records, []string{"ab", "cd", "ef", "y"}) || len(u.Records) != 3 || !slices.Equal(x, []int{0, 10, 12}) || len(y) != 129 {
		t.Errorf("%v, %v, %v, %v", a.Records, b.Records, u.Records, x)
	}
	// So do two records that are written to the same tape in its middle.
	one, _, _ := tape.Tick(busy(u.Records, 1, 2, 1, 0, 1), mem, bad[1:])
	two, _, _ := tape.Tick(busy(u.Records, 1, 2, 2, 2, 1), mem, bad[1:])
	if len(one.Records) != 2 || len(two.Records) != 2 || len(one.Records[1]) != 1 || len(two.Records[1]) != 2 || !slices.Equal(u.Records, []string{"ab", "cd", "ef"}) {
		t.Errorf("%v, %v, %v", one.Records, two.Records, u.Records)
	}
}

func TestWrongStatesDoNotPanic(t *testing.T) {
	for _, s := range wrongStates() {
		otherCalls(s.u)
		results(s)
		u, mem, bad := s.u, s.mem, s.bad
		for range 20 {
			u, mem, bad = tape.Tick(u, mem, bad)
		}
	}
	for _, s := range []state{{}, {u: api.Tape{Left: 1, Command: 1, Count: 1}}, {u: api.Tape{Left: 1, Command: 1, Count: -1, Records: []string{"a"}}}, {u: api.Tape{Left: 1, Command: 2, Count: 1}, mem: []int{1}}, {u: api.Tape{Left: -1}}, {u: api.Tape{Left: 1, Command: 4, Pos: 9}}, {u: api.Tape{Left: 1, Command: 6, Pos: -9}}} {
		otherCalls(s.u)
		results(s)
	}
}

// P17.7 to P17.9: the consequences.

func TestWhatWasWrittenIsReadBack(t *testing.T) {
	for _, count := range []int{1, 2, 3, 64, 255, 511, 512} {
		for _, from := range []int{0, 1, 100, 511} {
			for _, to := range []int{1024, 1025, 1300, 2048 - count} {
				for _, h := range heads() {
					if h.Pos == 64 {
						continue
					}
					u, mem, bad := idle(h.Records, h.Pos, count, from), words(2048), []int(nil)
					for a := 1024; a < 2048; a += 2 {
						bad = append(bad, a)
					}
					u, mem, bad = ticks(began(t, u, 0, 2), mem, bad, 16)
					u, mem, bad = ticks(began(t, u, 0, 4), mem, bad, 16)
					if u.Error || u.Pos != h.Pos || len(bad) != 512 || !slices.Equal(mem, words(2048)) {
						t.Fatalf("%d bytes at %d: %s", count, from, show(u))
					}
					u, mem, bad = ticks(began(t, loaded(t, u, count, to), 0, 1), mem, bad, 16)
					before, _ := memory.Bytes(words(2048), 0, 2048)
					after, _ := memory.Bytes(mem, 0, 2048)
					if after != before[:to]+before[from:from+count]+before[to+count:] || u.Error || u.Mark || u.Count != 0 || u.Pos != h.Pos+1 {
						t.Fatalf("%d bytes at %d are read back as others: %s", count, from, show(u))
					}
					for a := 1024; a < 2048; a += 2 {
						if slices.Contains(bad, a) != (a+2 <= to || a >= to+count) {
							t.Fatalf("%d bytes at %d: the parity at %d", count, to, a)
						}
					}
				}
			}
		}
	}
}

func TestATapeIsReadToItsEnd(t *testing.T) {
	for _, records := range [][]string{nil, {""}, {"ab", "", "c"}, reel(1, 2, 3, 512, 0, 0, 9), fullReel(), make([]string, 64)} {
		for _, command := range []int{1, 3} {
			u, e := tape.New(records)
			mem, bad := words(1024), []int(nil)
			if e != api.OK {
				t.Fatalf("New: error %d", e)
			}
			for i, r := range records {
				u, mem, bad = ticks(began(t, loaded(t, u, 600, 33), 0, command), mem, bad, 16)
				if u.Pos != i+1 || u.Error || u.End || u.Mark != (r == "") {
					t.Fatalf("record %d: %s", i, show(u))
				}
				if got, _ := memory.Bytes(mem, 33, len(r)); command == 1 && (got != r || u.Count != 600-len(r)) {
					t.Fatalf("record %d: %q", i, got)
				}
			}
			for range 3 {
				before := slices.Clone(mem)
				u, mem, bad = ticks(began(t, loaded(t, u, 600, 33), 0, command), mem, bad, 16)
				if !u.End || !u.Error || u.Mark || u.Pos != len(records) || u.Count != 600 || !slices.Equal(mem, before) {
					t.Fatalf("the end: %s", show(u))
				}
			}
			// And back to its beginning, where the end is no error.
			for i := len(records) - 1; i >= 0; i-- {
				u, mem, bad = ticks(began(t, u, 0, 4), mem, bad, 16)
				if u.Pos != i || u.Error || u.End || u.Mark != (records[i] == "") {
					t.Fatalf("back over record %d: %s", i, show(u))
				}
			}
			for range 3 {
				u, mem, bad = ticks(began(t, u, 0, 4), mem, bad, 16)
				if !u.End || u.Error || u.Mark || u.Pos != 0 || !slices.Equal(u.Records, records) {
					t.Fatalf("the beginning: %s", show(u))
				}
			}
		}
	}
}

// Long runs.

// numbers is a sequence of numbers that look disordered, but are the same in every run.
type numbers uint64

// next returns a number from 0 to n - 1.
func (s *numbers) next(n int) int {
	*s = *s*6364136223846793005 + 1442695040888963407
	return int(uint64(*s) >> 33 % uint64(n))
}

// pick returns one of some numbers.
func (s *numbers) pick(l ...int) int {
	return l[s.next(len(l))]
}

// run makes the same calls for a unit with a memory and for their model.
type run struct {
	t    *testing.T
	s    numbers
	now  state
	m    *model
	size int
	// done, errors, marks and ends have the numbers of the commands that were carried out, and of those that set a flag.
	done, errors, marks, ends [7]int
}

// register returns a register, and a value to be written there, which is mostly one that begins a command or leads to one without an error.
func (r *run) register() (int, int) {
	far := farInts[r.s.next(len(farInts))]
	switch r.s.next(8) {
	case 0:
		return 0, r.s.pick(0, 1, 2, 15, 64, 66, 65535, -1, r.s.next(65536), far)
	case 1, 2, 3:
		return 0, 64*r.s.next(2) + 2*r.s.pick(1, 1, 2, 2, 2, 3, 4, 4, 5, 6) + 1
	case 4, 5:
		return 2, r.s.pick(0, 1, 2, 3, 4, 5, 511, 512, 513, 1+r.s.next(70), 1+r.s.next(40), 1+r.s.next(20), r.s.next(600), 65535, -1, far)
	case 6:
		return 4, r.s.pick(r.s.next(r.size), r.s.next(r.size/2), r.s.next(r.size/4), r.size-1-r.s.next(20), r.size, 65535, far)
	}
	return r.s.pick(-2, 1, 3, 5, 6, 65536, far), r.s.next(65536)
}

// write writes a register.
func (r *run) write() {
	reg, v := r.register()
	got, ok := tape.Write(r.now.u, reg, v)
	if reg != 0 && reg != 2 && reg != 4 {
		if ok || !same(got, r.now.u) {
			r.t.Fatalf("Write of %d to %d: %s", v, reg, show(got))
		}
		return
	}
	r.now.u = got
	r.m.u = wantWrite(r.m.u, reg, v)
	if value, _ := tape.Read(got, 2); !ok || value != r.m.u.Count {
		r.t.Fatalf("Write of %d to %d: %s, %v", v, reg, show(got), ok)
	}
}

// tick lets a tick pass.
func (r *run) tick() {
	before := r.m.u
	r.m.tick()
	if after := r.m.u; before.Left == 1 {
		r.done[before.Command]++
		for _, f := range []struct {
			set   bool
			count *[7]int
		}{{after.Error && !before.Error, &r.errors}, {after.Mark && !before.Mark, &r.marks}, {after.End && !before.End, &r.ends}} {
			if f.set {
				f.count[before.Command]++
			}
		}
	}
	u, mem, bad := tape.Tick(r.now.u, r.now.mem, r.now.bad)
	r.now = state{u, mem, bad}
}

// damage spoils a word of memory.
func (r *run) damage() {
	addr := 2 * r.s.next(r.size/2)
	bad, e := memory.Spoil(r.now.mem, r.now.bad, addr)
	if e != api.OK {
		r.t.Fatalf("Spoil of %d: error %d", addr, e)
	}
	r.now.bad = bad
	r.m.spoilt[addr], r.m.spoilt[addr+1] = true, true
}

// poke writes a word of memory, as a processor does.
func (r *run) poke() {
	addr, v := 2*r.s.next(r.size/2), r.s.next(65536)
	if n := len(r.now.bad); n > 0 && r.s.next(2) == 0 {
		addr = r.now.bad[r.s.next(n)]
	}
	mem, bad, trap := memory.Write(r.now.mem, r.now.bad, addr, false, v)
	if trap != api.TrNone {
		r.t.Fatalf("Write to %d: trap %d", addr, trap)
	}
	r.now.mem, r.now.bad = mem, bad
	r.m.bytes[addr], r.m.bytes[addr+1] = byte(v), byte(v>>8)
	delete(r.m.spoilt, addr)
	delete(r.m.spoilt, addr+1)
}

// change puts another tape on the unit, which is nearly full, and mostly wound nearly to its end.
func (r *run) change() {
	n := 64 - r.s.next(3)
	records := fullReel()[:n]
	pos := r.s.pick(n, n, n, n-1, r.s.next(n))
	r.now.u.Records, r.now.u.Pos = records, pos
	r.m.passed, r.m.further = slices.Clone(records[:pos]), slices.Clone(records[pos:])
}

// step makes one call, or several ticks.
func (r *run) step() {
	switch n := r.s.next(100); {
	case n < 50:
		r.write()
	case n < 60:
		r.tick()
	case n < 84:
		for range r.s.next(40) {
			r.tick()
		}
	case n < 86:
		r.now.u = tape.Reset(r.now.u)
		r.m.u.Enable, r.m.u.Error, r.m.u.Mark, r.m.u.End, r.m.u.Ready, r.m.u.Command, r.m.u.Left = false, false, false, false, true, 0, 0
	case n < 88:
		r.now.u = tape.Mount(r.now.u)
		r.m.passed, r.m.further = nil, slices.Concat(r.m.passed, r.m.further)
		if r.m.u.Left > 0 {
			r.m.u.Left, r.m.u.Ready, r.m.u.Error = 0, true, true
		}
	case n < 92:
		vector := r.s.pick(164, 164, 160, 64, -164, farInts[r.s.next(len(farInts))])
		r.now.u = tape.Accept(r.now.u, vector)
		r.m.u.Enable = r.m.u.Enable && vector != 164
	case n < 94:
		r.damage()
	case n < 96:
		r.change()
	default:
		r.poke()
	}
}

// compare compares a unit and its memory with the model.
func (r *run) compare(n int) {
	u, mem, bad := r.m.parts()
	if !r.now.equal(state{u, mem, bad}) {
		r.t.Fatalf("call %d: %s, want %s", n, describe(r.now.u, r.now.mem, r.now.bad), describe(u, mem, bad))
	}
	if !tape.Right(r.now.u) || !memory.Right(r.now.mem, r.now.bad) {
		r.t.Fatalf("call %d: not valid: %s", n, describe(r.now.u, r.now.mem, r.now.bad))
	}
	if l := tape.Requests(r.now.u); (len(l) == 1) != (u.Enable && u.Ready) {
		r.t.Fatalf("call %d: requests %v of %s", n, l, show(u))
	}
}

func TestLongRuns(t *testing.T) {
	for i, c := range []struct {
		size    int
		records []string
	}{{256, nil}, {256, reel(2, 0, 1)}, {512, reel(3, 512, 0, 0, 77)}, {1024, fullReel()}, {4096, fullReel()[:60]}} {
		u, e := tape.New(c.records)
		if e != api.OK {
			t.Fatalf("New: error %d", e)
		}
		mem := words(c.size)
		r := &run{t: t, s: numbers(i), now: state{u, mem, nil}, m: modelOf(u, mem, nil), size: c.size}
		for n := range 12000 {
			before := r.now
			var copied state
			if n%5 == 0 {
				copied = before.copyOf()
			}
			r.step()
			r.compare(n)
			if n%5 == 0 && !before.equal(copied) {
				t.Fatalf("call %d has changed what was before it", n)
			}
		}
		// Every command was carried out often, and set every flag that it can set.
		for command, can := range []struct{ error, mark, end bool }{{}, {true, true, true}, {true, false, true}, {true, true, true}, {false, true, true}, {}, {true, false, true}} {
			if command > 0 && r.done[command] < 50 || can.error != (r.errors[command] > 0) || can.mark != (r.marks[command] > 0) || can.end != (r.ends[command] > 0) {
				t.Errorf("%d bytes, command %d: carried out %d times, %d errors, %d marks, %d ends", c.size, command, r.done[command], r.errors[command], r.marks[command], r.ends[command])
			}
		}
	}
}

func TestEarlierStatesStay(t *testing.T) {
	// All states of a run are kept, and compared with their copies at its end.
	u, mem := idle(reel(2, 0, 1), 0, 0, 0), words(512)
	r := &run{t: t, s: 99, now: state{u, mem, nil}, m: modelOf(u, mem, nil), size: 512}
	var states, copies []state
	for range 2000 {
		r.step()
		states = append(states, r.now)
		copies = append(copies, r.now.copyOf())
	}
	for i := range states {
		if !states[i].equal(copies[i]) {
			t.Fatalf("the state of call %d has changed", i)
		}
	}
}
