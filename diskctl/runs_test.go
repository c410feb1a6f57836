package diskctl_test

import (
	"math"
	"slices"
	"strings"
	"testing"

	"emulator/api"
	"emulator/diskctl"
	"emulator/drive"
	"emulator/memory"
)

// All calls: what they are given stays as it is, and what they return is new memory.

// state is what Tick is given and returns.
type state struct {
	k        api.Disk
	mem, bad []int
}

// copyOf returns a copy of a state.
func (s state) copyOf() state {
	return state{kept(s.k), slices.Clone(s.mem), slices.Clone(s.bad)}
}

// equal reports whether two states are equal.
func (s state) equal(o state) bool {
	return same(s.k, o.k) && slices.Equal(s.mem, o.mem) && slices.Equal(s.bad, o.bad)
}

// roomy returns a copy of a list with values behind its end.
func roomy[T any](l []T, behind T) []T {
	r := slices.Clone(l)
	for range 5 {
		r = append(r, behind)
	}
	return r[:len(l)]
}

// roomyState returns a copy of a state with memory behind the ends of its lists, into which nobody may write.
func roomyState(s state) state {
	s.k.Drive = api.Drive{Sectors: roomy(s.k.Drive.Sectors, "behind"), Bad: roomy(s.k.Drive.Bad, -77)}
	return state{s.k, roomy(s.mem, -78), roomy(s.bad, -79)}
}

// whole returns the state with what lies behind the ends of its lists.
func whole(s state) state {
	d := s.k.Drive
	s.k.Drive = api.Drive{Sectors: d.Sectors[:cap(d.Sectors)], Bad: d.Bad[:cap(d.Bad)]}
	return state{s.k, s.mem[:cap(s.mem)], s.bad[:cap(s.bad)]}
}

// fill sets all elements of a list, and the memory behind its end.
func fill[T any](l []T, v T) {
	l = l[:cap(l)]
	for i := range l {
		l[i] = v
	}
}

// lists returns functions that overwrite each of the lists of a state.
func lists(s state) []func() {
	return []func(){
		func() { fill(s.k.Drive.Sectors, "overwritten") },
		func() { fill(s.k.Drive.Bad, -5) },
		func() { fill(s.mem, -6) },
		func() { fill(s.bad, -7) },
	}
}

// overwrite changes all lists of a state.
func overwrite(s state) {
	for _, f := range lists(s) {
		f()
	}
}

// ticking returns states of valid controllers and memories whose next tick transfers a sector, or does not.
func ticking() []state {
	var all []state
	content, _ := memory.Store(words(512), 128, strings.Join(disks(6).Sectors[3:], ""))
	for _, d := range []api.Drive{disks(6), disks(6, 0, 4), disks(6, 3, 5)} {
		for _, mem := range [][]int{words(256), words(512), content} {
			for _, bad := range [][]int{nil, {2, 4}, {126, 128, 130, 254}} {
				for command := 1; command <= 3; command++ {
					for _, n := range []int{1, 64, 65} {
						for _, left := range []int{1, 2, 8} {
							all = append(all, state{busy(d, command, n, 128, 3, left), mem, bad})
						}
						k := idle(d, n, 128, 3)
						k.Command = command
						all = append(all, state{k, mem, bad})
					}
				}
			}
		}
	}
	return all
}

// wrongStates returns states that are not valid, in their controllers or in their memories.
func wrongStates() []state {
	var all []state
	drives := append(wrongDrives(), disks(3), disks(3, 1))
	for i, d := range drives {
		for _, n := range append([]int{-2, -1, 0, 1, 2, 4, 9, 64, 65, 128, 65535}, farInts...) {
			k := busy(d, 1+i%3, 64, 128, 1, 1)
			for _, change := range []func(k *api.Disk){
				func(k *api.Disk) { k.Command = n }, func(k *api.Disk) { k.Words = n }, func(k *api.Disk) { k.Addr = n }, func(k *api.Disk) { k.Start = n }, func(k *api.Disk) { k.Left = n },
				func(k *api.Disk) { k.Command, k.Words, k.Addr, k.Start = n, n, n, n },
				func(k *api.Disk) { k.Words, k.Addr = n, -2*n },
				func(k *api.Disk) { k.Words, k.Addr = n, 128-2*n },
			} {
				x := kept(k)
				change(&x)
				all = append(all, state{x, words(256), nil})
				x.Ready = true
				all = append(all, state{x, words(256), []int{4, 128}})
			}
		}
	}
	for command := range 5 {
		for _, mem := range [][]int{nil, {}, {1}, {-1, 65536, math.MaxInt, math.MinInt}, slices.Repeat([]int{-1}, 128), slices.Repeat([]int{math.MaxInt}, 200), words(254), words(32770), words(65536)} {
			for _, bad := range [][]int{nil, {0}, {-2, -1, 1, 3, 127}, {math.MinInt, math.MaxInt}, {130, 128, 128, 2, 0}, upTo(-10, 300)} {
				for _, addr := range []int{0, 1, 2, 128, 252, 254, 32768, 65534, -2, math.MaxInt - 1, math.MinInt} {
					all = append(all, state{busy(disks(3), command, 3, addr, 1, 1), mem, bad})
				}
			}
		}
	}
	return all
}

// results returns the states that all calls return for one. Those without a memory have none.
func results(s state) []state {
	k, mem, bad := diskctl.Tick(s.k, s.mem, s.bad)
	all := []state{{k, mem, bad}, {k: diskctl.New(s.k.Drive)}, {k: diskctl.Reset(s.k)}, {k: diskctl.Accept(s.k, 160)}, {k: diskctl.Accept(s.k, 164)}, {k: diskctl.Accept(s.k, math.MinInt)}}
	for _, reg := range []int{-1, 0, 2, 3, 4, 6, 8, math.MinInt, math.MaxInt} {
		for _, v := range []int{0, 1, 3, 71, 65535, -1, math.MinInt, math.MaxInt} {
			x, _ := diskctl.Write(s.k, reg, v)
			all = append(all, state{k: x})
		}
	}
	return all
}

// otherCalls makes the calls that return no controllers.
func otherCalls(k api.Disk) {
	diskctl.Right(k)
	diskctl.Requests(k)
	for _, reg := range []int{-1, 0, 2, 4, 6, 8, math.MinInt, math.MaxInt} {
		diskctl.Read(k, reg)
	}
}

func TestStates(t *testing.T) {
	transferred := 0
	for _, s := range ticking() {
		if !diskctl.Right(s.k) || !memory.Right(s.mem, s.bad) {
			t.Errorf("not valid: %s", describe(s.k, s.mem, s.bad))
		}
		if k, _, _ := checkTick(t, s.k, s.mem, s.bad); k.Start == 4 {
			transferred++
		}
	}
	if transferred < 50 {
		t.Errorf("only %d states transfer a sector", transferred)
	}
	wrong := 0
	for _, s := range wrongStates() {
		if !diskctl.Right(s.k) || !memory.Right(s.mem, s.bad) {
			wrong++
		}
	}
	if wrong < 3000 {
		t.Errorf("only %d wrong states", wrong)
	}
}

func TestArgumentsStayAsTheyAre(t *testing.T) {
	for _, s := range append(ticking(), wrongStates()...) {
		s := roomyState(s)
		before := whole(s).copyOf()
		otherCalls(s.k)
		all := results(s)
		if !whole(s).equal(before) {
			t.Fatalf("changed by a call: %s", describe(s.k, s.mem, s.bad))
		}
		// What the caller does with the results does not change the arguments either.
		for _, x := range all {
			overwrite(x)
		}
		if !whole(s).equal(before) {
			t.Fatalf("changed with a result: %s", describe(s.k, s.mem, s.bad))
		}
	}
}

func TestResultsAreNewMemory(t *testing.T) {
	for _, s := range ticking() {
		s := s.copyOf()
		all := results(s)
		var before []state
		for _, x := range all {
			before = append(before, x.copyOf())
		}
		again := results(s)
		overwrite(s)
		for i, x := range all {
			if !x.equal(before[i]) || !again[i].equal(before[i]) {
				t.Fatalf("result %d shares memory with an argument: %s", i, show(s.k))
			}
		}
		for i, x := range all {
			overwrite(x)
			if !again[i].equal(before[i]) {
				t.Fatalf("result %d shares memory with that of another call: %s", i, show(s.k))
			}
		}
	}
}

func TestListsOfAResultAreApart(t *testing.T) {
	for _, s := range ticking() {
		for list := range lists(s) {
			k, mem, bad := diskctl.Tick(s.k, s.mem, s.bad)
			x := state{k, mem, bad}
			want := x.copyOf()
			lists(x)[list]()
			lists(want)[list]()
			if !x.equal(want) {
				t.Fatalf("list %d of a result shares memory with another one: %s", list, show(s.k))
			}
		}
	}
}

func TestRequestsAreNewMemory(t *testing.T) {
	k := with(idle(disks(1), 0, 0, 0), flags{true, false})
	first, second := diskctl.Requests(k), diskctl.Requests(k)
	fill(first, api.Request{Priority: 1, Vector: 2})
	if third := diskctl.Requests(k); second[0] != (api.Request{Priority: 5, Vector: 160}) || third[0] != second[0] {
		t.Errorf("requests %v, %v", second, third)
	}
}

func TestAppendingToAResult(t *testing.T) {
	// Two states that follow from one must not write their further elements to the same place.
	k, mem, bad := diskctl.Tick(busy(disks(3, 0), 1, 3, 4, 1, 1), words(256), []int{0, 4, 6, 10})
	if !slices.Equal(bad, []int{0, 10}) {
		t.Fatalf("bad addresses %v", bad)
	}
	a, b := diskctl.Reset(k), diskctl.Accept(k, 160)
	a.Drive.Bad = append(a.Drive.Bad, 1)
	b.Drive.Bad = append(b.Drive.Bad, 2)
	x, y := append(bad, 12), append(mem, 5)
	if !slices.Equal(a.Drive.Bad, []int{0, 1}) || !slices.Equal(b.Drive.Bad, []int{0, 2}) || !slices.Equal(k.Drive.Bad, []int{0}) || !slices.Equal(x, []int{0, 10, 12}) || len(y) != 129 {
		t.Errorf("%v, %v, %v, %v", a.Drive.Bad, b.Drive.Bad, k.Drive.Bad, x)
	}
}

func TestWrongStatesDoNotPanic(t *testing.T) {
	for _, s := range wrongStates() {
		otherCalls(s.k)
		results(s)
		k, mem, bad := s.k, s.mem, s.bad
		for range 20 {
			k, mem, bad = diskctl.Tick(k, mem, bad)
		}
	}
	for _, s := range []state{{}, {k: api.Disk{Left: 1, Command: 1, Words: 1}}, {k: api.Disk{Left: 1, Command: 2, Words: 1}, mem: []int{1}}, {k: api.Disk{Left: -1}}} {
		otherCalls(s.k)
		results(s)
	}
}

// P16.6: the consequences.

func TestDurationOfTransfers(t *testing.T) {
	mem, _ := memory.Store(words(4096), 0, strings.Join(disks(32).Sectors, ""))
	for n := 1; n <= 700; n++ {
		for command := 1; command <= 3; command++ {
			if n > 130 && n%64 > 1 && n%64 < 63 && n%50 != 0 {
				continue
			}
			k, m, bad := began(t, diskctl.New(disks(32)), 0, command, n, 0, 0), mem, []int(nil)
			count := 0
			for !k.Ready {
				k, m, bad = diskctl.Tick(k, m, bad)
				count++
			}
			sectors := n / 64
			if n%64 > 0 {
				sectors++
			}
			if count != 8*sectors || k.Error || k.Words != 0 || k.Addr != 2*n || k.Start != sectors {
				t.Fatalf("command %d, %d words: %d ticks, %s", command, n, count, show(k))
			}
		}
	}
}

func TestWhatWasWrittenIsReadBack(t *testing.T) {
	for _, n := range append(wordsLists, 3, 130, 256) {
		for _, from := range []int{0, 2, 100, 512} {
			for _, start := range []int{0, 3, 8} {
				mem := words(2048)
				k := began(t, diskctl.New(disks(12)), 0, 2, n, from, start)
				k, mem, bad, _ := runOut(t, k, mem, nil)
				// A check of the same words finds no difference.
				k = began(t, k, 0, 3, n, from, start)
				k, mem, bad, _ = runOut(t, k, mem, bad)
				if k.Error || k.Words != 0 {
					t.Fatalf("%d words, check: %s", n, show(k))
				}
				// They are read to another place, whose words are all bad.
				to := from + 1024
				for addr := to; addr < to+2*n; addr += 2 {
					bad = append(bad, addr)
				}
				k = began(t, k, 0, 1, n, to, start)
				before := slices.Clone(mem)
				k, mem, bad, _ = runOut(t, k, mem, bad)
				if k.Error || k.Words != 0 || len(bad) != 0 {
					t.Fatalf("%d words, read: %s, bad addresses %v", n, show(k), bad)
				}
				a, _ := memory.Bytes(before, from, 2*n)
				b, _ := memory.Bytes(mem, to, 2*n)
				if a != b {
					t.Fatalf("%d words are read back as others", n)
				}
				k = began(t, k, 0, 3, n, to, start)
				if k, _, _, _ = runOut(t, k, mem, bad); k.Error {
					t.Fatalf("%d words, check of what was read: %s", n, show(k))
				}
			}
		}
	}
}

func TestMemoryOutsideStays(t *testing.T) {
	for command := 1; command <= 3; command++ {
		for _, n := range wordsLists {
			for _, addr := range []int{0, 2, 100, 624} {
				mem, bad := words(1024), upTo(0, 0)
				for a := 2; a < 1024; a += 6 {
					bad = append(bad, a)
				}
				_, m, b, _ := runOut(t, busy(disks(5), command, n, addr, 0, 8), mem, bad)
				outside := func(a int) bool { return a < addr || a >= addr+2*n }
				for i := range mem {
					if outside(2*i) && m[i] != mem[i] {
						t.Fatalf("command %d, %d words at %d: the word at %d has changed", command, n, addr, 2*i)
					}
				}
				for _, a := range bad {
					if outside(a) != slices.Contains(b, a) && (outside(a) || command == 1) {
						t.Fatalf("command %d, %d words at %d: the parity at %d", command, n, addr, a)
					}
				}
			}
		}
	}
}

// Long runs.

// numbers is a sequence of numbers that look disordered, but are the same in every run.
type numbers uint64

// next returns a number from 0 to n - 1.
func (s *numbers) next(n int) int {
	*s = *s*6364136223846793005 + 1442695040888963407
	return int(uint64(*s) >> 33 % uint64(n))
}

// pick returns one of some numbers.
func (s *numbers) pick(l ...int) int {
	return l[s.next(len(l))]
}

// run makes the same calls for a controller with a memory and for their model.
type run struct {
	t    *testing.T
	s    numbers
	now  state
	m    *model
	size int
	// counts has the numbers of the sectors that were transferred, and of the errors, by command.
	sectors, errors [4]int
}

// register returns an offset, and a value to be written there, which is mostly one that leads to a transfer.
func (r *run) register() (int, int) {
	switch r.s.next(8) {
	case 0:
		return 0, r.s.pick(0, 1, 2, 64, 66, 65535, -1, r.s.next(65536), farInts[r.s.next(len(farInts))])
	case 1, 2:
		return 0, 64*r.s.next(2) + 2*(1+r.s.next(3)) + 1
	case 3, 4:
		return 2, r.s.pick(0, 1, 2, 63, 64, 65, 128, 200, 1+r.s.next(70), r.s.next(300), 65535, -1, farInts[r.s.next(len(farInts))])
	case 5:
		return 4, r.s.pick(r.s.next(r.size), r.s.next(r.size/2), r.s.next(r.size/4), r.size-1-r.s.next(200), r.size, 65535, farInts[r.s.next(len(farInts))])
	case 6:
		n := len(r.now.k.Drive.Sectors)
		return 6, r.s.pick(r.s.next(n), r.s.next(n), r.s.next(n), n-1, n, -1, 65536, farInts[r.s.next(len(farInts))])
	}
	return r.s.pick(-2, 1, 3, 8, 10, 65536, farInts[r.s.next(len(farInts))]), r.s.next(65536)
}

// write writes a register.
func (r *run) write() {
	reg, v := r.register()
	got, ok := diskctl.Write(r.now.k, reg, v)
	if reg != 0 && reg != 2 && reg != 4 && reg != 6 {
		if ok || !same(got, api.Disk{}) {
			r.t.Fatalf("Write of %d to %d: %s", v, reg, show(got))
		}
		return
	}
	r.now.k = got
	r.m.k = wantWrite(r.m.k, reg, v)
	if value, _ := diskctl.Read(got, 2); !ok || value != r.m.k.Words {
		r.t.Fatalf("Write of %d to %d: %s, %v", v, reg, show(got), ok)
	}
}

// tick lets a tick pass.
func (r *run) tick() {
	command, before, wrong := r.m.k.Command, r.m.k.Start, r.m.k.Error
	r.m.tick()
	if r.m.k.Start != before {
		r.sectors[command]++
	}
	if r.m.k.Error && !wrong {
		r.errors[command]++
	}
	k, mem, bad := diskctl.Tick(r.now.k, r.now.mem, r.now.bad)
	r.now = state{k, mem, bad}
}

// damage spoils a word of memory, or rarely a sector.
func (r *run) damage() {
	addr := 2 * r.s.next(r.size/2)
	bad, e := memory.Spoil(r.now.mem, r.now.bad, addr)
	if e != api.OK {
		r.t.Fatalf("Spoil of %d: error %d", addr, e)
	}
	r.now.bad = bad
	r.m.spoilt[addr], r.m.spoilt[addr+1] = true, true
	if n := r.s.next(len(r.m.sectors)); r.s.next(20) == 0 && len(r.m.badSectors) < len(r.m.sectors)/4 {
		d, e := drive.Spoil(r.now.k.Drive, n)
		if e != api.OK {
			r.t.Fatalf("Spoil of sector %d: error %d", n, e)
		}
		r.now.k.Drive = d
		r.m.badSectors[n] = true
	}
}

// poke writes a word of memory, as a processor does.
func (r *run) poke() {
	addr, v := 2*r.s.next(r.size/2), r.s.next(65536)
	if n := len(r.now.bad); n > 0 && r.s.next(2) == 0 {
		addr = r.now.bad[r.s.next(n)]
	}
	mem, bad, trap := memory.Write(r.now.mem, r.now.bad, addr, false, v)
	if trap != api.TrNone {
		r.t.Fatalf("Write to %d: trap %d", addr, trap)
	}
	r.now.mem, r.now.bad = mem, bad
	r.m.bytes[addr], r.m.bytes[addr+1] = byte(v), byte(v>>8)
	delete(r.m.spoilt, addr)
	delete(r.m.spoilt, addr+1)
}

// load puts the sector on which the registers are into the range, so that a check, which begins then, may find no difference.
func (r *run) load() {
	k := r.now.k
	s, e := drive.Read(k.Drive, k.Start)
	mem, f := memory.Store(r.now.mem, k.Addr, s)
	if e != api.OK || f != api.OK {
		return
	}
	r.now.mem = mem
	copy(r.m.bytes[k.Addr:], s)
	r.now.k, _ = diskctl.Write(k, 0, 7)
	r.m.k = wantWrite(r.m.k, 0, 7)
}

// step makes one call, or several ticks.
func (r *run) step() {
	switch n := r.s.next(100); {
	case n < 45:
		r.write()
	case n < 60:
		r.tick()
	case n < 80:
		for range r.s.next(30) {
			r.tick()
		}
	case n < 82:
		r.now.k = diskctl.Reset(r.now.k)
		r.m.k.Enable, r.m.k.Error, r.m.k.Ready, r.m.k.Command, r.m.k.Left = false, false, true, 0, 0
	case n < 86:
		vector := r.s.pick(160, 160, 164, 64, -160, farInts[r.s.next(len(farInts))])
		r.now.k = diskctl.Accept(r.now.k, vector)
		r.m.k.Enable = r.m.k.Enable && vector != 160
	case n < 87:
		r.damage()
	case n < 93:
		r.load()
	default:
		r.poke()
	}
}

// compare compares a controller and its memory with the model.
func (r *run) compare(n int) {
	k, mem, bad := r.m.parts()
	if !r.now.equal(state{k, mem, bad}) {
		r.t.Fatalf("call %d: %s, want %s", n, describe(r.now.k, r.now.mem, r.now.bad), describe(k, mem, bad))
	}
	if !diskctl.Right(r.now.k) || !memory.Right(r.now.mem, r.now.bad) {
		r.t.Fatalf("call %d: not valid: %s", n, describe(r.now.k, r.now.mem, r.now.bad))
	}
	if l := diskctl.Requests(r.now.k); (len(l) == 1) != (k.Enable && k.Ready) {
		r.t.Fatalf("call %d: requests %v of %s", n, l, show(k))
	}
}

func TestLongRuns(t *testing.T) {
	for i, c := range []struct{ size, sectors int }{{256, 1}, {256, 3}, {512, 6}, {1024, 20}, {4096, 256}} {
		k, mem := diskctl.New(disks(c.sectors)), words(c.size)
		r := &run{t: t, s: numbers(i), now: state{k, mem, nil}, m: modelOf(k, mem, nil), size: c.size}
		for n := range 12000 {
			before := r.now
			var copied state
			if n%5 == 0 {
				copied = before.copyOf()
			}
			r.step()
			r.compare(n)
			if n%5 == 0 && !before.equal(copied) {
				t.Fatalf("call %d has changed what was before it", n)
			}
		}
		for command := 1; command <= 3; command++ {
			if r.sectors[command] < 20 || r.errors[command] < 20 {
				t.Errorf("%d bytes, command %d: %d sectors, %d errors", c.size, command, r.sectors[command], r.errors[command])
			}
		}
	}
}

func TestEarlierStatesStay(t *testing.T) {
	// All states of a run are kept, and compared with their copies at its end.
	k, mem := diskctl.New(disks(5)), words(512)
	r := &run{t: t, s: 99, now: state{k, mem, nil}, m: modelOf(k, mem, nil), size: 512}
	var states, copies []state
	for range 2000 {
		r.step()
		states = append(states, r.now)
		copies = append(copies, r.now.copyOf())
	}
	for i := range states {
		if !states[i].equal(copies[i]) {
			t.Fatalf("the state of call %d has changed", i)
		}
	}
}
