package drive_test

import (
	"maps"
	"math"
	"slices"
	"strings"
	"testing"

	"emulator/api"
	"emulator/drive"
)

// All calls: what they are given stays as it is, and what they return is new memory.

// wrongDrives returns drives that are not valid.
func wrongDrives() []api.Drive {
	all := []api.Drive{{}, {Sectors: []string{}, Bad: []int{}}, {Bad: []int{0}}, {Bad: []int{-1, 0, 1, 256}}, {Sectors: []string{""}}, {Sectors: []string{"a", "b", "c"}}, {Sectors: []string{zeros, zeros + zeros, "\x00"}, Bad: []int{1}},
		sample(257), sample(257, 256), sample(300, 299, 0), sample(1, 1), sample(256, 256), sample(3, math.MinInt, math.MaxInt), sample(3, math.MaxInt, 2, 1, 0, -1, math.MinInt),
		{Sectors: make([]string, 1000), Bad: make([]int, 1000)}, sample(4, 2, 2, 2, 2, 2, 2), sample(4, 3, 1), sample(4, upTo(-5, 9)...)}
	for _, n := range []int{0, 1, 127, 129, 256} {
		for i := range 3 {
			all = append(all, replaced(sample(3, i), i, text(n, 1)))
		}
	}
	return all
}

// someDrives returns valid drives.
func someDrives() []api.Drive {
	all := []api.Drive{sample(1), sample(1, 0), sample(2, 1), sample(255, 254), sample(256), sample(256, 0, 3, 255), sample(256, upTo(0, 255)...)}
	for _, bad := range subsets(4) {
		all = append(all, sample(4, bad...))
	}
	return all
}

func TestDrivesOfTheTest(t *testing.T) {
	for _, d := range someDrives() {
		if !drive.Right(d) {
			t.Errorf("%d sectors with the bad ones %v are not valid", len(d.Sectors), d.Bad)
		}
	}
	for _, d := range wrongDrives() {
		if drive.Right(d) {
			t.Errorf("%d sectors with the bad ones %v are valid", len(d.Sectors), d.Bad)
		}
	}
}

// roomy returns a copy of a drive with memory behind the ends of its lists, into which nobody may write.
func roomy(d api.Drive) api.Drive {
	return api.Drive{Sectors: roomyList(d.Sectors, "behind"), Bad: roomyList(d.Bad, -77)}
}

// roomyList returns a copy of a list with a value behind its end.
func roomyList[T any](l []T, behind T) []T {
	r := slices.Clone(l)
	for range 5 {
		r = append(r, behind)
	}
	return r[:len(l)]
}

// guard fails if a drive or writes have been changed since it was called, also behind their ends.
func guard(t *testing.T, d api.Drive, l []api.Write) func() {
	sectors, bad, writes := slices.Clone(d.Sectors[:cap(d.Sectors)]), slices.Clone(d.Bad[:cap(d.Bad)]), slices.Clone(l[:cap(l)])
	return func() {
		t.Helper()
		if !slices.Equal(sectors, d.Sectors[:cap(d.Sectors)]) || !slices.Equal(bad, d.Bad[:cap(d.Bad)]) || !slices.Equal(writes, l[:cap(l)]) {
			t.Fatalf("the drive of %d sectors with the bad ones %v, or the %d writes, have been changed", len(d.Sectors), d.Bad, len(l))
		}
	}
}

// someWrites returns lists of writes: ones that are made, and ones with errors.
func someWrites() [][]api.Write {
	return [][]api.Write{nil, {}, {{Sector: 0, Data: "a"}}, {{Sector: 3, Data: "a"}, {Sector: 2, Data: zeros}, {Sector: 3, Data: ""}, {Sector: 1, Data: "b"}, {Sector: 0, Data: "c"}},
		{{Sector: -1, Data: "a"}}, {{Sector: 0, Data: "a"}, {Sector: 0, Data: zeros + "a"}}, {{Sector: 1, Data: "a"}, {Sector: 256, Data: ""}, {Sector: 0, Data: "b"}}}
}

// results returns the drives that the calls of a drive return.
func results(d api.Drive, l []api.Write) []api.Drive {
	var all []api.Drive
	for _, n := range []int{math.MinInt, -1, 0, 1, 2, 3, 254, 255, 256, math.MaxInt} {
		for _, s := range []string{"", "xyz", zeros, zeros + "x"} {
			written, _ := drive.Write(d, n, s)
			all = append(all, written)
		}
		spoilt, _ := drive.Spoil(d, n)
		applied, _, _ := drive.Apply(d, l, n)
		all = append(all, spoilt, applied)
	}
	return all
}

// overwrite changes all elements of a drive's lists, and the memory behind their ends.
func overwrite(d api.Drive) {
	for i := range d.Sectors[:cap(d.Sectors)] {
		d.Sectors[:cap(d.Sectors)][i] = "overwritten"
	}
	for i := range d.Bad[:cap(d.Bad)] {
		d.Bad[:cap(d.Bad)][i] = -5
	}
}

func TestArgumentsStayAsTheyAre(t *testing.T) {
	for _, d := range append(someDrives(), wrongDrives()...) {
		for _, l := range someWrites() {
			d, l := roomy(d), roomyList(l, api.Write{Sector: 2, Data: "behind"})
			check := guard(t, d, l)
			drive.Right(d)
			for _, n := range []int{-1, 0, 1, len(d.Sectors), math.MaxInt} {
				drive.Read(d, n)
			}
			drive.Diff(d, d)
			drive.Diff(d, sample(3))
			drive.Diff(sample(3), d)
			all := results(d, l)
			check()
			// What the caller does with the results does not change the arguments either.
			for _, x := range all {
				overwrite(x)
				check()
			}
		}
	}
}

func TestResultsAreNewMemory(t *testing.T) {
	for _, d := range someDrives() {
		for _, l := range someWrites() {
			first, second := results(d, l), results(d, l)
			for i, x := range first {
				before := api.Drive{Sectors: slices.Clone(second[i].Sectors), Bad: slices.Clone(second[i].Bad)}
				if !same(x, before) {
					t.Fatalf("result %d of a drive of %d sectors differs the second time", i, len(d.Sectors))
				}
				overwrite(x)
				if !same(second[i], before) {
					t.Fatalf("result %d of a drive of %d sectors shares memory with another one", i, len(d.Sectors))
				}
			}
			if third := results(d, l); !slices.EqualFunc(third, second, same) {
				t.Fatalf("the results of a drive of %d sectors have changed", len(d.Sectors))
			}
		}
	}
}

func TestArgumentsMayChangeAfterACall(t *testing.T) {
	for _, d := range someDrives() {
		for _, l := range someWrites() {
			d, l := roomy(d), slices.Clone(l)
			all := results(d, l)
			var before []api.Drive
			for _, x := range all {
				before = append(before, api.Drive{Sectors: slices.Clone(x.Sectors), Bad: slices.Clone(x.Bad)})
			}
			overwrite(d)
			for i := range l {
				l[i] = api.Write{Sector: 9, Data: "overwritten"}
			}
			if !slices.EqualFunc(all, before, same) {
				t.Fatalf("results for %d sectors share memory with an argument", len(d.Sectors))
			}
		}
	}
}

func TestNewReturnsNewMemory(t *testing.T) {
	for _, sectors := range []int{1, 2, 256} {
		a, _ := drive.New(sectors)
		b, _ := drive.New(sectors)
		overwrite(a)
		c, _ := drive.New(sectors)
		for i := range sectors {
			if b.Sectors[i] != zeros || c.Sectors[i] != zeros {
				t.Fatalf("sector %d of a new drive of %d has been changed", i, sectors)
			}
		}
	}
}

func TestDiffReturnsNewMemory(t *testing.T) {
	a, b := sample(5, 1, 2), sample(3)
	first, second := drive.Diff(a, b), drive.Diff(a, b)
	for i := range first[:cap(first)] {
		first[:cap(first)][i] = -1
	}
	if !slices.Equal(second, []int{3, 4}) || !slices.Equal(drive.Diff(a, b), []int{3, 4}) || !same(a, sample(5, 1, 2)) {
		t.Error("a changed result of Diff changes others")
	}
}

func TestAppendingToBadSectors(t *testing.T) {
	// Two drives that follow from one must not write their new bad sectors to the same place.
	d, _ := drive.New(8)
	for n := range 4 {
		d, _ = drive.Spoil(d, n)
		x, _ := drive.Spoil(d, 6)
		y, _ := drive.Spoil(d, 7)
		z, _ := drive.Write(d, 5, "z")
		z, _ = drive.Spoil(z, 5)
		for _, k := range []struct {
			got  []int
			last int
		}{{x.Bad, 6}, {y.Bad, 7}, {z.Bad, 5}} {
			if !slices.Equal(k.got, append(upTo(0, n), k.last)) {
				t.Errorf("after Spoil of %d sectors and of %d: %v", n+1, k.last, k.got)
			}
		}
	}
}

func TestWrongDrivesDoNotPanic(t *testing.T) {
	numbers := slices.Concat(upTo(-3, 5), []int{254, 255, 256, 257, 299, 300, 999, 1000}, farInts)
	for _, d := range wrongDrives() {
		for _, n := range numbers {
			drive.Read(d, n)
			drive.Spoil(d, n)
			for _, s := range []string{"", "x", zeros, zeros + "x"} {
				drive.Write(d, n, s)
				for _, fuse := range []int{-1, 0, 1, 2, n} {
					drive.Apply(d, []api.Write{{Sector: n, Data: s}, {Sector: 0, Data: "y"}}, fuse)
				}
			}
		}
	}
}

// P15.8: the consequences.

func TestWrittenSectorsAreRead(t *testing.T) {
	for _, d := range someDrives() {
		for n := range d.Sectors {
			for _, length := range []int{0, 1, 64, 127, 128} {
				s := text(length, n+9)
				x, e := drive.Write(d, n, s)
				if slices.Contains(d.Bad, n) {
					if e != api.ErrIO {
						t.Fatalf("Write to the bad sector %d: error %d", n, e)
					}
					continue
				}
				got, f := drive.Read(x, n)
				if e != api.OK || f != api.OK || got != filled(s) {
					t.Fatalf("of %d bytes of sector %d %q is read: errors %d, %d", length, n, got, e, f)
				}
				// All others are read as before.
				for i := range d.Sectors {
					before, e := drive.Read(d, i)
					after, f := drive.Read(x, i)
					if i != n && (before != after || e != f) {
						t.Fatalf("Write to sector %d changes sector %d", n, i)
					}
				}
			}
		}
	}
}

func TestDiffOfADriveAndItself(t *testing.T) {
	for _, d := range append(someDrives(), wrongDrives()...) {
		if got := drive.Diff(d, d); len(got) != 0 {
			t.Errorf("a drive of %d sectors differs from itself in %v", len(d.Sectors), got)
		}
	}
}

// Long runs.

// numbers is a sequence of numbers that look disordered, but are the same in every run.
type numbers uint64

// next returns a number from 0 to n - 1.
func (s *numbers) next(n int) int {
	*s = *s*6364136223846793005 + 1442695040888963407
	return int(uint64(*s) >> 33 % uint64(n))
}

// sector returns mostly the number of a sector, and sometimes none.
func (s *numbers) sector(sectors int) int {
	switch s.next(40) {
	case 0:
		return farInts[s.next(len(farInts))]
	case 1:
		return sectors + s.next(3)
	case 2:
		return -1 - s.next(3)
	}
	return s.next(sectors)
}

// text returns a text that fits into a sector, and sometimes a longer one.
func (s *numbers) text() string {
	n := []int{0, 1, 127, 128, s.next(129), s.next(129), s.next(129), s.next(129)}[s.next(8)]
	if s.next(25) == 0 {
		n = 129 + s.next(200)
	}
	return text(n, s.next(1000))
}

// writes returns up to ten writes.
func (s *numbers) writes(sectors int) []api.Write {
	var l []api.Write
	for range s.next(11) {
		l = append(l, api.Write{Sector: s.sector(sectors), Data: s.text()})
	}
	return l
}

// model is a drive as its users see it: its size, the bytes of the sectors that were written, and which ones are bad.
type model struct {
	sectors int
	bytes   map[int]string
	bad     map[int]bool
}

func (m model) inside(sector int) bool {
	return sector >= 0 && sector < m.sectors
}

// content returns the bytes of a sector.
func (m model) content(sector int) string {
	s := m.bytes[sector]
	return s + zeros[len(s):]
}

func (m model) write(w api.Write) api.Errno {
	if !m.inside(w.Sector) {
		return api.ErrRange
	}
	if len(w.Data) > 128 {
		return api.ErrLong
	}
	if m.bad[w.Sector] {
		return api.ErrIO
	}
	m.bytes[w.Sector] = w.Data
	return api.OK
}

// apply makes writes until some of them have been made.
func (m model) apply(l []api.Write, fuse int) (int, api.Errno) {
	made := 0
	for _, w := range l {
		if fuse >= 0 && made >= fuse {
			break
		}
		if e := m.write(w); e != api.OK {
			return made, e
		}
		made++
	}
	return made, api.OK
}

// matches reports whether a drive is that of the model.
func (m model) matches(d api.Drive) bool {
	if len(d.Sectors) != m.sectors || !slices.Equal(d.Bad, slices.Sorted(maps.Keys(m.bad))) {
		return false
	}
	for i, s := range d.Sectors {
		if s != m.content(i) {
			return false
		}
	}
	return true
}

// run does the same with a drive and its model, call by call.
type run struct {
	t *testing.T
	s numbers
	d api.Drive
	m model
}

// read checks Read of a sector.
func (r *run) read(sector int) {
	want, wantError := "", api.ErrRange
	if r.m.inside(sector) {
		if r.m.bad[sector] {
			wantError = api.ErrIO
		} else {
			want, wantError = r.m.content(sector), api.OK
		}
	}
	if got, e := drive.Read(r.d, sector); got != want || e != wantError {
		r.t.Fatalf("Read of sector %d: %q, %d, want %q, %d", sector, got, e, want, wantError)
	}
}

// write checks Write of a text.
func (r *run) write(sector int, s string) {
	next, e := drive.Write(r.d, sector, s)
	if want := r.m.write(api.Write{Sector: sector, Data: s}); e != want {
		r.t.Fatalf("Write of %d bytes to sector %d: error %d, want %d", len(s), sector, e, want)
	}
	if e != api.OK {
		if !none(next) {
			r.t.Fatal("Write returns a drive beside an error")
		}
		return
	}
	for _, n := range drive.Diff(r.d, next) {
		if n != sector {
			r.t.Fatalf("Write to sector %d changes sector %d", sector, n)
		}
	}
	r.d = next
}

// spoil checks Spoil of a sector.
func (r *run) spoil(sector int) {
	next, e := drive.Spoil(r.d, sector)
	if !r.m.inside(sector) {
		if e != api.ErrRange || !none(next) {
			r.t.Fatalf("Spoil of sector %d: error %d", sector, e)
		}
		return
	}
	if e != api.OK || len(drive.Diff(r.d, next)) != 0 {
		r.t.Fatalf("Spoil of sector %d: error %d", sector, e)
	}
	r.m.bad[sector] = true
	r.d = next
}

// apply checks Apply of writes, at once and in two parts.
func (r *run) apply(l []api.Write, fuse int) {
	next, made, e := drive.Apply(r.d, l, fuse)
	if wantMade, want := r.m.apply(l, fuse); made != wantMade || e != want {
		r.t.Fatalf("Apply of %d writes with the fuse %d: %d, error %d, want %d, %d", len(l), fuse, made, e, wantMade, want)
	}
	for _, n := range drive.Diff(r.d, next) {
		if !slices.ContainsFunc(l[:made], func(w api.Write) bool { return w.Sector == n }) {
			r.t.Fatalf("Apply changes sector %d, which is not written", n)
		}
	}
	r.parts(l)
	r.d = next
}

// parts checks that the writes up to a fuse, and then the remaining ones, are all of them.
func (r *run) parts(l []api.Write) {
	whole, all, e := drive.Apply(r.d, l, -1)
	for k := range len(l) + 1 {
		part, made, f := drive.Apply(r.d, l, k)
		if k > all {
			// The fuse is beyond an error, which ends both.
			if made != all || f != e || !same(part, whole) {
				r.t.Fatalf("Apply with the fuse %d: %d, error %d, without a fuse %d, error %d", k, made, f, all, e)
			}
			continue
		}
		if made != k || f != api.OK {
			r.t.Fatalf("Apply with the fuse %d: %d, error %d", k, made, f)
		}
		rest, more, g := drive.Apply(part, l[made:], -1)
		if made+more != all || g != e || !same(rest, whole) {
			r.t.Fatalf("Apply of %d and %d writes is not Apply of %d", made, more, all)
		}
	}
}

// step makes one call.
func (r *run) step() {
	sectors := r.m.sectors
	switch n := r.s.next(100); {
	case n < 25:
		r.read(r.s.sector(sectors))
	case n < 60:
		r.write(r.s.sector(sectors), r.s.text())
	case n < 62:
		r.spoil(r.s.sector(sectors))
	case n < 63: // a new one, lest all sectors become bad
		d, e := drive.New(sectors)
		if e != api.OK || len(drive.Diff(d, d)) != 0 {
			r.t.Fatalf("New(%d): error %d", sectors, e)
		}
		r.d, r.m = d, model{sectors, map[int]string{}, map[int]bool{}}
	default:
		l := r.s.writes(sectors)
		r.apply(l, r.s.next(len(l)+3)-1)
	}
}

func TestLongRuns(t *testing.T) {
	for i, sectors := range []int{1, 2, 5, 40, 256} {
		d, e := drive.New(sectors)
		if e != api.OK {
			t.Fatalf("New(%d): error %d", sectors, e)
		}
		r := &run{t, numbers(i), d, model{sectors, map[int]string{}, map[int]bool{}}}
		for n := range 6000 {
			before := r.d
			kept := api.Drive{Sectors: slices.Clone(before.Sectors), Bad: slices.Clone(before.Bad)}
			r.step()
			if !r.m.matches(r.d) || !drive.Right(r.d) {
				t.Fatalf("%d sectors, call %d: the drive is not that of the model", sectors, n)
			}
			if !same(before, kept) {
				t.Fatalf("%d sectors, call %d has changed the drive before it", sectors, n)
			}
		}
	}
}

func TestEarlierDrivesStay(t *testing.T) {
	// All drives of a run are kept, and compared with their copies at its end.
	d, _ := drive.New(9)
	r := &run{t, numbers(77), d, model{9, map[int]string{}, map[int]bool{}}}
	var drives, copies []api.Drive
	for range 3000 {
		r.step()
		var sectors []string
		for _, s := range r.d.Sectors {
			sectors = append(sectors, strings.Clone(s))
		}
		drives = append(drives, r.d)
		copies = append(copies, api.Drive{Sectors: sectors, Bad: slices.Clone(r.d.Bad)})
	}
	for i := range drives {
		if !same(drives[i], copies[i]) {
			t.Fatalf("the drive of call %d has changed", i)
		}
	}
}
