package drive_test

import (
	"math"
	"slices"
	"strings"
	"testing"

	"emulator/api"
	"emulator/drive"
)

// sectorBytes and maxSectors are the limits as the document gives them.
const (
	sectorBytes = 128
	maxSectors  = 256
)

// farInts has integers far from the numbers of sectors, many of which become one of them when they are cut to fewer bits.
var farInts = []int{math.MinInt, math.MinInt + 1, math.MinInt + 2, math.MinInt + 128, -1 << 62, -1<<62 + 1, -1 << 40, -1 << 32, -1<<32 + 1, -1<<32 + 2, -1 << 31, -1<<31 + 1, -65537, -65536, -65535, -65534, -32768, -512, -511, -257, -256, -255, -254, -129, -128, -127,
	511, 512, 513, 32768, 65535, 65536, 65537, 65538, 65792, 1<<31 - 1, 1 << 31, 1<<31 + 1, 1<<32 - 1, 1 << 32, 1<<32 + 1, 1<<32 + 2, 1<<32 + 256, 1 << 40, 1<<40 + 1, 1 << 57, 1 << 62, 1<<62 + 1, math.MaxInt - 128, math.MaxInt - 1, math.MaxInt}

// zeros has the bytes of a new sector.
var zeros = strings.Repeat("\x00", sectorBytes)

// text returns n bytes of all values. Texts of different kinds differ, if they have at least two bytes.
func text(n, kind int) string {
	b := make([]byte, n)
	for i := range b {
		b[i] = byte((37+2*(kind/256))*i + 101*kind + 200)
	}
	return string(b)
}

// filled returns a text with zeros behind it, up to a whole sector.
func filled(s string) string {
	for len(s) < sectorBytes {
		s += "\x00"
	}
	return s
}

// sample returns a valid drive whose sectors all differ.
func sample(sectors int, bad ...int) api.Drive {
	d := api.Drive{Bad: slices.Clone(bad)}
	for i := range sectors {
		d.Sectors = append(d.Sectors, text(sectorBytes, i))
	}
	return d
}

// same reports whether two drives have the same sectors and bad sectors.
func same(a, b api.Drive) bool {
	return slices.Equal(a.Sectors, b.Sectors) && slices.Equal(a.Bad, b.Bad)
}

// none reports whether a drive is the zero value.
func none(d api.Drive) bool {
	return len(d.Sectors) == 0 && len(d.Bad) == 0
}

// replaced returns a drive with another content of one sector.
func replaced(d api.Drive, sector int, s string) api.Drive {
	r := api.Drive{Sectors: slices.Clone(d.Sectors), Bad: slices.Clone(d.Bad)}
	r.Sectors[sector] = s
	return r
}

// upTo returns the numbers from a first to a last one.
func upTo(first, last int) []int {
	var l []int
	for n := first; n <= last; n++ {
		l = append(l, n)
	}
	return l
}

// subsets returns all ascending lists of the numbers below n.
func subsets(n int) [][]int {
	var all [][]int
	for set := range 1 << n {
		var l []int
		for i := range n {
			if set>>i%2 == 1 {
				l = append(l, i)
			}
		}
		all = append(all, l)
	}
	return all
}

// orders returns all orders of the numbers below n.
func orders(n int) [][]int {
	if n == 0 {
		return [][]int{nil}
	}
	var all [][]int
	for _, l := range orders(n - 1) {
		for i := range n {
			all = append(all, slices.Insert(slices.Clone(l), i, n-1))
		}
	}
	return all
}

func TestHelpers(t *testing.T) {
	if len(zeros) != api.SectorBytes || sectorBytes != api.SectorBytes || maxSectors != api.MaxSectors {
		t.Error("the limits of the test are wrong")
	}
	if len(subsets(4)) != 16 || len(orders(4)) != 24 || filled("ab") != "ab"+zeros[2:] || len(upTo(-3, 3)) != 7 {
		t.Error("the lists of the test are wrong")
	}
	seen := map[string]bool{zeros: true}
	for _, s := range sample(300).Sectors {
		if seen[s] || len(s) != sectorBytes {
			t.Error("the sectors of a sample are equal")
		}
		seen[s] = true
	}
}

// P15.1: New.

// checkNew checks New of so many sectors.
func checkNew(t *testing.T, sectors int) {
	t.Helper()
	d, e := drive.New(sectors)
	if sectors < 1 || sectors > maxSectors {
		if e != api.ErrRange || !none(d) {
			t.Errorf("New(%d) has %d sectors, error %d", sectors, len(d.Sectors), e)
		}
		return
	}
	if e != api.OK || len(d.Sectors) != sectors || len(d.Bad) != 0 || !drive.Right(d) {
		t.Errorf("New(%d) has %d sectors, the bad ones %v, error %d", sectors, len(d.Sectors), d.Bad, e)
	}
	for i, s := range d.Sectors {
		if len(s) != 128 || s != zeros {
			t.Errorf("sector %d of New(%d) is %q", i, sectors, s)
		}
	}
}

func TestNew(t *testing.T) {
	for _, sectors := range []int{-1, 0, 1, 2, 255, 256, 257} {
		checkNew(t, sectors)
	}
	for sectors := -600; sectors <= 1200; sectors++ {
		checkNew(t, sectors)
	}
	for _, sectors := range farInts {
		checkNew(t, sectors)
	}
}

func TestErrorOfNew(t *testing.T) {
	for _, k := range []struct {
		sectors int
		e       api.Errno
	}{{math.MinInt, api.ErrRange}, {-1, api.ErrRange}, {0, api.ErrRange}, {1, api.OK}, {2, api.OK}, {255, api.OK}, {256, api.OK}, {257, api.ErrRange}, {1 << 32, api.ErrRange}, {1<<32 + 1, api.ErrRange}, {math.MaxInt, api.ErrRange}} {
		if _, e := drive.New(k.sectors); e != k.e {
			t.Errorf("New(%d): error %d, want %d", k.sectors, e, k.e)
		}
	}
}

// P15.2: Right.

func TestRightOfTheNumberOfSectors(t *testing.T) {
	for n := range 1100 {
		d := sample(n)
		if got, want := drive.Right(d), n >= 1 && n <= 256; got != want {
			t.Errorf("with %d sectors Right is %v", n, got)
		}
		d.Bad = []int{0}
		if got, want := drive.Right(d), n >= 1 && n <= 256; got != want {
			t.Errorf("with %d sectors, one of them bad, Right is %v", n, got)
		}
	}
	for _, k := range []struct {
		sectors int
		want    bool
	}{{0, false}, {1, true}, {2, true}, {255, true}, {256, true}, {257, false}, {512, false}, {65536, false}, {65537, false}} {
		if got := drive.Right(sample(k.sectors)); got != k.want {
			t.Errorf("with %d sectors Right is %v", k.sectors, got)
		}
	}
	if drive.Right(api.Drive{}) || drive.Right(api.Drive{Sectors: []string{}, Bad: []int{}}) {
		t.Error("a drive without sectors is valid")
	}
}

func TestRightOfTheBytesOfASector(t *testing.T) {
	for _, sectors := range []int{1, 2, 3, 4, 17, 255, 256} {
		for _, i := range []int{0, 1, sectors / 2, sectors - 2, sectors - 1} {
			if i < 0 || i >= sectors {
				continue
			}
			for _, n := range []int{0, 1, 2, 64, 126, 127, 128, 129, 130, 192, 255, 256, 384} {
				d := replaced(sample(sectors), i, text(n, 7))
				if got := drive.Right(d); got != (n == 128) {
					t.Errorf("with %d bytes in sector %d of %d Right is %v", n, i, sectors, got)
				}
			}
		}
	}
}

func TestRightCountsBytes(t *testing.T) {
	for _, k := range []struct {
		content string
		want    bool
	}{
		{zeros, true}, {strings.Repeat("\xff", 128), true}, {strings.Repeat(" ", 128), true}, {strings.Repeat("\n", 128), true},
		{strings.Repeat("\u00e9", 64), true}, {strings.Repeat("\u00e9", 128), false}, // bytes, not runes
		{strings.Repeat("\u20ac", 42) + "ab", true}, {strings.Repeat("\u20ac", 128), false},
		{zeros + "\x00", false}, {zeros[1:], false}, {"", false},
	} {
		for i := range 3 {
			if got := drive.Right(replaced(sample(3), i, k.content)); got != k.want {
				t.Errorf("with the sector %q at %d Right is %v", k.content, i, got)
			}
		}
	}
}

func TestRightOfLengthsTogether(t *testing.T) {
	// All sectors have 128 bytes together, or on average, but not each of them.
	d := sample(4)
	d.Sectors[1], d.Sectors[2] = text(127, 1), text(129, 2)
	if drive.Right(d) {
		t.Error("a shorter and a longer sector are valid")
	}
	for _, n := range []int{0, 127, 129} {
		var all api.Drive
		for range 4 {
			all.Sectors = append(all.Sectors, text(n, 3))
		}
		if drive.Right(all) {
			t.Errorf("four sectors of %d bytes are valid", n)
		}
	}
}

func TestRightOfABadSector(t *testing.T) {
	numbers := slices.Concat(upTo(-300, 600), farInts)
	for _, sectors := range []int{1, 2, 3, 128, 255, 256} {
		for _, n := range numbers {
			if got, want := drive.Right(sample(sectors, n)), n >= 0 && n < sectors; got != want {
				t.Errorf("with the bad sector %d of %d Right is %v", n, sectors, got)
			}
		}
	}
}

func TestRightOfBadSectors(t *testing.T) {
	for _, k := range []struct {
		bad  []int
		want bool
	}{
		{nil, true}, {[]int{}, true}, {[]int{0}, true}, {[]int{9}, true}, {[]int{10}, false}, {[]int{-1}, false},
		{[]int{0, 9}, true}, {[]int{0, 1}, true}, {[]int{8, 9}, true}, {[]int{3, 4, 7}, true}, {upTo(0, 9), true}, {upTo(0, 8), true}, {upTo(1, 9), true},
		{[]int{0, 0}, false}, {[]int{9, 9}, false}, {[]int{1, 1, 2}, false}, {[]int{1, 2, 2}, false}, {[]int{0, 5, 5, 9}, false}, // repeated
		{[]int{1, 0}, false}, {[]int{9, 8}, false}, {[]int{0, 9, 8}, false}, {[]int{1, 0, 2}, false}, {[]int{0, 3, 2, 9}, false}, {[]int{9, 0}, false}, {[]int{5, 7, 5}, false}, // descending
		{[]int{-1, 0}, false}, {[]int{-2, -1}, false}, {[]int{-1, 5, 9}, false}, {[]int{0, -1}, false}, {[]int{math.MinInt, 0}, false}, // negative
		{[]int{0, 10}, false}, {[]int{9, 10}, false}, {[]int{8, 9, 10}, false}, {upTo(0, 10), false}, {[]int{10, 9}, false}, {[]int{0, math.MaxInt}, false}, // beyond the last sector
	} {
		if got := drive.Right(sample(10, k.bad...)); got != k.want {
			t.Errorf("with the bad sectors %v of 10 Right is %v", k.bad, got)
		}
	}
	// Numbers of bad sectors are those of this drive, not of the longest one.
	if !drive.Right(sample(256, upTo(0, 255)...)) || drive.Right(sample(256, upTo(0, 256)...)) || drive.Right(sample(255, upTo(0, 255)...)) || drive.Right(sample(1, 0, 1)) {
		t.Error("all sectors are bad")
	}
}

func TestRightOfAllShortListsOfBadSectors(t *testing.T) {
	lists := [][]int{nil}
	for next := 0; next < len(lists); next++ {
		bad := lists[next]
		want := true
		for i, n := range bad {
			want = want && n >= 0 && n <= 2 && (i == 0 || bad[i-1] < n)
		}
		if got := drive.Right(sample(3, bad...)); got != want {
			t.Errorf("with the bad sectors %v of 3 Right is %v", bad, got)
		}
		if len(bad) < 4 {
			for n := -1; n <= 3; n++ {
				lists = append(lists, append(slices.Clone(bad), n))
			}
		}
	}
	if len(lists) != 1+5+25+125+625 {
		t.Error("the lists of the test are wrong")
	}
}

func TestRightOfSeveralFaults(t *testing.T) {
	for _, d := range []api.Drive{
		{Bad: []int{0}}, {Bad: []int{-1}}, sample(257, 256), sample(257, 257), sample(257, -1),
		replaced(sample(3, 3), 0, ""), replaced(sample(3, 1, 1), 2, zeros+"x"), replaced(sample(257), 256, "x"),
	} {
		if drive.Right(d) {
			t.Errorf("%d sectors with the bad ones %v are valid", len(d.Sectors), d.Bad)
		}
	}
}

// P15.3: Read.

func TestRead(t *testing.T) {
	for _, sectors := range []int{1, 2, 3, 255, 256} {
		for _, bad := range [][]int{nil, {0}, {sectors - 1}, {sectors / 2}, upTo(0, sectors-1), upTo(1, sectors-1), upTo(0, sectors-2)} {
			d := sample(sectors, bad...)
			for _, n := range slices.Concat(upTo(-10, sectors+10), farInts) {
				want, wantError := "", api.ErrRange
				if n >= 0 && n < sectors {
					want, wantError = text(128, n), api.OK
					if slices.Contains(bad, n) {
						want, wantError = "", api.ErrIO
					}
				}
				if got, e := drive.Read(d, n); got != want || e != wantError {
					t.Fatalf("Read of sector %d of %d, bad %v: %q, %d, want error %d", n, sectors, bad, got, e, wantError)
				}
			}
		}
	}
}

func TestReadOfAllBadSectors(t *testing.T) {
	for _, bad := range subsets(6) {
		d := sample(6, bad...)
		for n := range 6 {
			got, e := drive.Read(d, n)
			if slices.Contains(bad, n) {
				if got != "" || e != api.ErrIO {
					t.Errorf("sector %d, bad %v: %q, %d", n, bad, got, e)
				}
			} else if got != text(128, n) || e != api.OK {
				t.Errorf("sector %d, bad %v: %q, %d", n, bad, got, e)
			}
		}
	}
}

func TestReadCases(t *testing.T) {
	d := sample(4, 1, 3)
	for _, k := range []struct {
		sector int
		want   string
		e      api.Errno
	}{
		{-1, "", api.ErrRange}, {0, text(128, 0), api.OK}, {1, "", api.ErrIO}, {2, text(128, 2), api.OK}, {3, "", api.ErrIO}, {4, "", api.ErrRange}, {5, "", api.ErrRange},
		{256, "", api.ErrRange}, {257, "", api.ErrRange}, {65536, "", api.ErrRange}, {1 << 32, "", api.ErrRange}, {1<<32 + 1, "", api.ErrRange}, {math.MaxInt, "", api.ErrRange}, {math.MinInt, "", api.ErrRange}, {math.MinInt + 1, "", api.ErrRange},
	} {
		if got, e := drive.Read(d, k.sector); got != k.want || e != k.e {
			t.Errorf("Read(%d) = %q, %d, want error %d", k.sector, got, e, k.e)
		}
	}
}

// P15.4: Write.

// someTexts has texts that fit into a sector, and texts that are too long.
func someTexts() []string {
	all := []string{"", "\x00", "q", "ab", "\x00\x00\x00", "a\x00b", "\xff", "\u00e9", zeros, zeros[1:], zeros + "\x00", strings.Repeat("z", 128), strings.Repeat("\xff", 128),
		strings.Repeat("\u00e9", 64), strings.Repeat("\u00e9", 64) + "x", strings.Repeat("\u00e9", 65), strings.Repeat("\u20ac", 100)}
	for _, n := range []int{1, 2, 3, 63, 64, 65, 126, 127, 128, 129, 130, 255, 256, 257, 1000, 65536, 65537} {
		all = append(all, text(n, 300))
	}
	return all
}

// wantWrite returns what Write should return.
func wantWrite(d api.Drive, sector int, s string) (api.Drive, api.Errno) {
	switch {
	case sector < 0 || sector > len(d.Sectors)-1:
		return api.Drive{}, api.ErrRange
	case len(s) >= 129:
		return api.Drive{}, api.ErrLong
	case slices.Contains(d.Bad, sector):
		return api.Drive{}, api.ErrIO
	}
	return replaced(d, sector, filled(s)), api.OK
}

func TestWrite(t *testing.T) {
	for _, sectors := range []int{1, 2, 3, 256} {
		for _, bad := range [][]int{nil, {0}, {sectors - 1}, {sectors / 2}, upTo(0, sectors-1), upTo(1, sectors-1)} {
			d := sample(sectors, bad...)
			for _, n := range []int{-2, -1, 0, 1, 2, 3, sectors / 2, sectors - 2, sectors - 1, sectors, sectors + 1, 256, 257, 65536, 1 << 32, math.MaxInt, math.MinInt} {
				for _, s := range someTexts() {
					want, wantError := wantWrite(d, n, s)
					got, e := drive.Write(d, n, s)
					if !same(got, want) || e != wantError || drive.Right(got) != (e == api.OK) {
						t.Fatalf("Write of %d bytes to sector %d of %d, bad %v: error %d, want %d", len(s), n, sectors, bad, e, wantError)
					}
				}
			}
		}
	}
}

func TestWriteOfAllLengths(t *testing.T) {
	long := strings.Repeat("z", 128)
	for n := range 300 {
		s := text(n, 5)
		for _, before := range []string{zeros, long, text(128, 9)} {
			d := replaced(sample(3), 1, before)
			got, e := drive.Write(d, 1, s)
			if n > 128 {
				if e != api.ErrLong || !none(got) {
					t.Errorf("Write of %d bytes: error %d", n, e)
				}
				continue
			}
			// Nothing remains of what was there before.
			if e != api.OK || len(got.Sectors) != 3 || got.Sectors[1] != s+strings.Repeat("\x00", 128-n) || got.Sectors[0] != d.Sectors[0] || got.Sectors[2] != d.Sectors[2] {
				t.Errorf("Write of %d bytes: error %d", n, e)
			}
		}
	}
}

func TestWriteToFarSectors(t *testing.T) {
	for _, sectors := range []int{1, 3, 256} {
		for _, n := range farInts {
			for _, s := range []string{"", "a", zeros, zeros + "x"} {
				if got, e := drive.Write(sample(sectors, 0), n, s); e != api.ErrRange || !none(got) {
					t.Errorf("Write of %d bytes to sector %d of %d: error %d", len(s), n, sectors, e)
				}
			}
		}
	}
}

func TestErrorsOfWrite(t *testing.T) {
	d := sample(4, 1, 3)
	fits, tooLong := text(128, 1), text(129, 1)
	for _, k := range []struct {
		sector int
		s      string
		e      api.Errno
	}{
		{0, fits, api.OK}, {2, fits, api.OK}, {0, "", api.OK},
		{-1, fits, api.ErrRange}, {4, fits, api.ErrRange}, {-1, "", api.ErrRange}, {4, "", api.ErrRange},
		{-1, tooLong, api.ErrRange}, {4, tooLong, api.ErrRange}, {math.MaxInt, tooLong, api.ErrRange}, {math.MinInt, tooLong, api.ErrRange}, // the sector comes first
		{0, tooLong, api.ErrLong}, {2, tooLong, api.ErrLong},
		{1, tooLong, api.ErrLong}, {3, tooLong, api.ErrLong}, // the length comes before the bad sector
		{1, fits, api.ErrIO}, {3, fits, api.ErrIO}, {1, "", api.ErrIO}, {3, "a", api.ErrIO},
	} {
		got, e := drive.Write(d, k.sector, k.s)
		if e != k.e {
			t.Errorf("Write of %d bytes to sector %d: error %d, want %d", len(k.s), k.sector, e, k.e)
		}
		if e != api.OK && !none(got) {
			t.Errorf("Write of %d bytes to sector %d returns a drive beside the error %d", len(k.s), k.sector, e)
		}
	}
}

func TestWriteOverALongerSector(t *testing.T) {
	d, _ := drive.New(3)
	d, e := drive.Write(d, 1, strings.Repeat("z", 128))
	if e != api.OK || d.Sectors[1] != strings.Repeat("z", 128) {
		t.Error("128 bytes are written:", d.Sectors, e)
	}
	d, e = drive.Write(d, 1, "q")
	if e != api.OK || d.Sectors[1] != "q"+strings.Repeat("\x00", 127) {
		t.Error("one byte is written:", d.Sectors, e)
	}
	d, e = drive.Write(d, 1, "")
	if e != api.OK || d.Sectors[1] != zeros {
		t.Error("nothing is written:", d.Sectors, e)
	}
}

// P15.5: Spoil.

func TestSpoil(t *testing.T) {
	for _, bad := range subsets(6) {
		d := sample(6, bad...)
		for n := -3; n <= 9; n++ {
			got, e := drive.Spoil(d, n)
			if n < 0 || n > 5 {
				if e != api.ErrRange || !none(got) {
					t.Errorf("Spoil of sector %d, bad %v: %v, %d", n, bad, got.Bad, e)
				}
				continue
			}
			var want []int
			for i := range 6 {
				if i == n || slices.Contains(bad, i) {
					want = append(want, i)
				}
			}
			if e != api.OK || !slices.Equal(got.Bad, want) || !slices.Equal(got.Sectors, d.Sectors) || !drive.Right(got) {
				t.Errorf("Spoil of sector %d, bad %v: %v, %d", n, bad, got.Bad, e)
			}
		}
	}
}

func TestSpoilCases(t *testing.T) {
	for _, k := range []struct {
		bad    []int
		sector int
		want   []int
	}{
		{nil, 0, []int{0}}, {nil, 9, []int{9}}, {nil, 5, []int{5}},
		{[]int{3, 6}, 0, []int{0, 3, 6}}, {[]int{3, 6}, 2, []int{2, 3, 6}}, // before
		{[]int{3, 6}, 4, []int{3, 4, 6}}, {[]int{3, 6}, 5, []int{3, 5, 6}}, // between
		{[]int{3, 6}, 7, []int{3, 6, 7}}, {[]int{3, 6}, 9, []int{3, 6, 9}}, // behind
		{[]int{3, 6}, 3, []int{3, 6}}, {[]int{3, 6}, 6, []int{3, 6}}, {[]int{0}, 0, []int{0}}, {[]int{9}, 9, []int{9}}, {upTo(0, 9), 4, upTo(0, 9)}, // bad already
		{[]int{0, 1, 2, 3, 5, 6, 7, 8, 9}, 4, upTo(0, 9)},
	} {
		got, e := drive.Spoil(sample(10, k.bad...), k.sector)
		if e != api.OK || !slices.Equal(got.Bad, k.want) || !slices.Equal(got.Sectors, sample(10).Sectors) {
			t.Errorf("Spoil of sector %d, bad %v: %v, %d", k.sector, k.bad, got.Bad, e)
		}
	}
}

func TestSpoilInAnyOrder(t *testing.T) {
	for _, order := range orders(5) {
		d := sample(6)
		for i, n := range order {
			for range 2 { // the second time it is bad already
				var e api.Errno
				if d, e = drive.Spoil(d, n); e != api.OK {
					t.Fatalf("Spoil in the order %v: error %d", order, e)
				}
				want := slices.Sorted(slices.Values(order[:i+1]))
				if !slices.Equal(d.Bad, want) || !slices.Equal(d.Sectors, sample(6).Sectors) || !drive.Right(d) {
					t.Fatalf("Spoil in the order %v: %v", order, d.Bad)
				}
			}
		}
		for n := range 6 {
			_, e := drive.Read(d, n)
			_, f := drive.Write(d, n, "x")
			if wanted := map[bool]api.Errno{false: api.ErrIO, true: api.OK}[n == 5]; e != wanted || f != wanted {
				t.Errorf("after Spoil of %v sector %d: errors %d and %d", order, n, e, f)
			}
		}
	}
}

func TestSpoilOfAllSectors(t *testing.T) {
	for _, step := range []int{1, 255, 3, 101, 253} { // ascending, descending and scattered
		d := sample(256)
		for i := range 256 {
			var e api.Errno
			if d, e = drive.Spoil(d, (i*step+7)%256); e != api.OK || len(d.Bad) != i+1 || !drive.Right(d) {
				t.Fatalf("step %d, %d sectors: %v, error %d", step, i+1, d.Bad, e)
			}
		}
		if !same(d, sample(256, upTo(0, 255)...)) {
			t.Errorf("step %d: the bad sectors are %v", step, d.Bad)
		}
	}
}

func TestErrorOfSpoil(t *testing.T) {
	for _, sectors := range []int{1, 2, 255, 256} {
		for _, bad := range [][]int{nil, {0}, {sectors - 1}, upTo(0, sectors-1)} {
			for _, n := range slices.Concat(upTo(-10, -1), upTo(sectors, sectors+10), farInts) {
				if got, e := drive.Spoil(sample(sectors, bad...), n); e != api.ErrRange || !none(got) {
					t.Errorf("Spoil of sector %d of %d: error %d", n, sectors, e)
				}
			}
		}
	}
}

// P15.6: Apply.

// wantApply returns what Apply should return.
func wantApply(d api.Drive, l []api.Write, fuse int) (api.Drive, int, api.Errno) {
	if len(l) == 0 || fuse == 0 {
		return d, 0, api.OK
	}
	next, e := wantWrite(d, l[0].Sector, l[0].Data)
	if e != api.OK {
		return d, 0, e
	}
	if fuse > 0 {
		fuse--
	}
	after, made, e := wantApply(next, l[1:], fuse)
	return after, made + 1, e
}

// checkApply checks Apply with a fuse.
func checkApply(t *testing.T, d api.Drive, l []api.Write, fuse int) {
	t.Helper()
	want, wantMade, wantError := wantApply(d, l, fuse)
	got, made, e := drive.Apply(d, l, fuse)
	if !same(got, want) || made != wantMade || e != wantError {
		t.Fatalf("Apply of %d writes with the fuse %d: %d writes, error %d, want %d writes, error %d; the right drive: %v", len(l), fuse, made, e, wantMade, wantError, same(got, want))
	}
	if drive.Right(got) != drive.Right(d) {
		t.Fatalf("Apply of %d writes with the fuse %d returns a wrong drive", len(l), fuse)
	}
}

func TestApplyOfAllShortLists(t *testing.T) {
	d := sample(4, 1)
	kinds := []api.Write{
		{Sector: 0, Data: "a"}, {Sector: 0, Data: "bcd"}, {Sector: 3, Data: text(128, 8)}, {Sector: 2, Data: ""}, // these are made
		{Sector: 1, Data: "e"}, {Sector: 4, Data: "f"}, {Sector: -1, Data: text(129, 1)}, {Sector: 0, Data: text(129, 2)}, {Sector: 1, Data: text(129, 3)}, // these are not
	}
	lists := [][]api.Write{nil}
	for next := 0; next < len(lists); next++ {
		l := lists[next]
		for _, fuse := range []int{-2, -1, 0, 1, 2, 3, 4, 5, math.MinInt, math.MaxInt} {
			checkApply(t, d, l, fuse)
		}
		if len(l) < 3 {
			for _, w := range kinds {
				lists = append(lists, append(slices.Clone(l), w))
			}
		}
	}
	if len(lists) != 1+9+81+729 {
		t.Error("the lists of the test are wrong")
	}
}

func TestApplyCases(t *testing.T) {
	a, b, c, again := api.Write{Sector: 0, Data: "a"}, api.Write{Sector: 2, Data: "b"}, api.Write{Sector: 3, Data: "c"}, api.Write{Sector: 0, Data: "d"}
	bad, missing, tooLong := api.Write{Sector: 1, Data: "x"}, api.Write{Sector: 4, Data: "x"}, api.Write{Sector: 0, Data: text(129, 1)}
	old := sample(4).Sectors
	for _, k := range []struct {
		l       []api.Write
		fuse    int
		made    int
		e       api.Errno
		sectors [4]string // "": as before
	}{
		{nil, -1, 0, api.OK, [4]string{}}, {nil, 0, 0, api.OK, [4]string{}}, {nil, 1, 0, api.OK, [4]string{}}, {nil, math.MaxInt, 0, api.OK, [4]string{}},
		{[]api.Write{a, b, c}, -1, 3, api.OK, [4]string{"a", "", "b", "c"}}, {[]api.Write{a, b, c}, 0, 0, api.OK, [4]string{}}, {[]api.Write{a, b, c}, 1, 1, api.OK, [4]string{"a"}}, {[]api.Write{a, b, c}, 2, 2, api.OK, [4]string{"a", "", "b"}},
		{[]api.Write{a, b, c}, 3, 3, api.OK, [4]string{"a", "", "b", "c"}}, {[]api.Write{a, b, c}, 4, 3, api.OK, [4]string{"a", "", "b", "c"}}, {[]api.Write{a, b, c}, math.MaxInt, 3, api.OK, [4]string{"a", "", "b", "c"}}, {[]api.Write{a, b, c}, math.MinInt, 3, api.OK, [4]string{"a", "", "b", "c"}},
		{[]api.Write{a, again}, -1, 2, api.OK, [4]string{"d"}}, {[]api.Write{again, a}, -1, 2, api.OK, [4]string{"a"}}, {[]api.Write{a, again}, 1, 1, api.OK, [4]string{"a"}}, // the last one of a sector counts
		{[]api.Write{bad, a}, -1, 0, api.ErrIO, [4]string{}}, {[]api.Write{bad, a}, 0, 0, api.OK, [4]string{}}, {[]api.Write{bad, a}, 1, 0, api.ErrIO, [4]string{}}, {[]api.Write{missing}, -1, 0, api.ErrRange, [4]string{}}, {[]api.Write{tooLong}, 5, 0, api.ErrLong, [4]string{}},
		{[]api.Write{a, bad, c}, -1, 1, api.ErrIO, [4]string{"a"}}, {[]api.Write{a, missing, c}, -1, 1, api.ErrRange, [4]string{"a"}}, {[]api.Write{b, tooLong, c}, -1, 1, api.ErrLong, [4]string{"", "", "b"}},
		{[]api.Write{a, bad, c}, 0, 0, api.OK, [4]string{}}, {[]api.Write{a, bad, c}, 1, 1, api.OK, [4]string{"a"}}, {[]api.Write{a, bad, c}, 2, 1, api.ErrIO, [4]string{"a"}}, {[]api.Write{a, bad, c}, 3, 1, api.ErrIO, [4]string{"a"}}, // the limit is looked at first
		{[]api.Write{a, b, bad}, -1, 2, api.ErrIO, [4]string{"a", "", "b"}}, {[]api.Write{a, b, bad}, 2, 2, api.OK, [4]string{"a", "", "b"}}, {[]api.Write{a, b, bad}, 3, 2, api.ErrIO, [4]string{"a", "", "b"}}, {[]api.Write{a, b, bad}, 9, 2, api.ErrIO, [4]string{"a", "", "b"}},
		{[]api.Write{a, bad, missing}, -1, 1, api.ErrIO, [4]string{"a"}}, {[]api.Write{a, missing, bad}, -1, 1, api.ErrRange, [4]string{"a"}}, // the first error counts
	} {
		want := slices.Clone(old)
		for i, s := range k.sectors {
			if s != "" {
				want[i] = filled(s)
			}
		}
		got, made, e := drive.Apply(sample(4, 1), k.l, k.fuse)
		if made != k.made || e != k.e || !slices.Equal(got.Sectors, want) || !slices.Equal(got.Bad, []int{1}) {
			t.Errorf("Apply of %d writes with the fuse %d: %d writes, error %d, want %d, %d; the right sectors: %v", len(k.l), k.fuse, made, e, k.made, k.e, slices.Equal(got.Sectors, want))
		}
	}
}

func TestApplyOfLongLists(t *testing.T) {
	d := sample(256, 100)
	var good []api.Write
	for i := range 300 {
		w := api.Write{Sector: i * 7 % 256, Data: text(i*31%129, i)}
		if w.Sector == 100 {
			w.Sector = 101
		}
		good = append(good, w)
	}
	checkApply(t, d, good, -1)
	for fuse := range 303 {
		checkApply(t, d, good, fuse)
	}
	for _, wrong := range []api.Write{{Sector: 100, Data: "x"}, {Sector: 256, Data: "x"}, {Sector: -1, Data: "x"}, {Sector: 5, Data: text(129, 1)}, {Sector: 100, Data: text(129, 1)}, {Sector: math.MaxInt, Data: text(129, 1)}} {
		for _, i := range []int{0, 1, 150, 298, 299} {
			l := slices.Clone(good)
			l[i] = wrong
			for _, fuse := range []int{-1, 0, 1, i - 1, i, i + 1, i + 2, 299, 300, 301, math.MinInt, math.MaxInt} {
				checkApply(t, d, l, fuse)
			}
		}
	}
}

func TestApplyWithFarFuses(t *testing.T) {
	d := sample(3, 1)
	l := []api.Write{{Sector: 0, Data: "a"}, {Sector: 2, Data: "b"}, {Sector: 1, Data: "c"}}
	for _, fuse := range slices.Concat(upTo(-300, 300), farInts) {
		checkApply(t, d, l, fuse)
		checkApply(t, d, l[:2], fuse)
		checkApply(t, d, nil, fuse)
		checkApply(t, d, l[2:], fuse)
	}
}

// P15.7: Diff.

// wantDiff returns what Diff should return, from the sets of both drives' sectors.
func wantDiff(a, b api.Drive) []int {
	sectors := map[int]string{}
	differ := map[int]bool{}
	for i, s := range a.Sectors {
		sectors[i], differ[i] = s, true
	}
	for i, s := range b.Sectors {
		other, both := sectors[i]
		differ[i] = !both || other != s
	}
	var l []int
	for i, is := range differ {
		if is {
			l = append(l, i)
		}
	}
	slices.Sort(l)
	return l
}

func TestDiffOfAllShortDrives(t *testing.T) {
	contents := []string{zeros, strings.Repeat("x", 128), "x", ""}
	lists := [][]string{nil}
	for next := 0; next < len(lists); next++ {
		if l := lists[next]; len(l) < 3 {
			for _, s := range contents {
				lists = append(lists, append(slices.Clone(l), s))
			}
		}
	}
	for _, x := range lists {
		for _, y := range lists {
			a, b := api.Drive{Sectors: x}, api.Drive{Sectors: y, Bad: []int{0, 9, -1}}
			if got, want := drive.Diff(a, b), wantDiff(a, b); !slices.Equal(got, want) {
				t.Fatalf("Diff of %q and %q is %v, want %v", x, y, got, want)
			}
		}
	}
	if len(lists) != 1+4+16+64 {
		t.Error("the lists of the test are wrong")
	}
}

func TestDiffOfOneSector(t *testing.T) {
	for _, sectors := range []int{1, 2, 255, 256} {
		d := sample(sectors)
		if got := drive.Diff(d, sample(sectors)); len(got) != 0 {
			t.Errorf("equal drives of %d sectors differ in %v", sectors, got)
		}
		for i := range sectors {
			for _, at := range []int{0, 1, 63, 126, 127} { // one byte differs
				s := []byte(d.Sectors[i])
				s[at] ^= 128
				x := replaced(d, i, string(s))
				if got, back := drive.Diff(d, x), drive.Diff(x, d); !slices.Equal(got, []int{i}) || !slices.Equal(back, []int{i}) {
					t.Errorf("with another byte %d in sector %d of %d Diff is %v, and %v", at, i, sectors, got, back)
				}
			}
		}
	}
}

func TestDiffOfSeveralSectors(t *testing.T) {
	for _, set := range subsets(8) {
		a, b := sample(8), sample(8)
		for _, i := range set {
			b.Sectors[i] = zeros
		}
		if got, back := drive.Diff(a, b), drive.Diff(b, a); !slices.Equal(got, set) || !slices.Equal(back, set) {
			t.Errorf("Diff is %v, and %v, want %v", got, back, set)
		}
	}
}

func TestDiffOfDifferentNumbersOfSectors(t *testing.T) {
	for _, k := range [][2]int{{1, 2}, {1, 256}, {2, 5}, {255, 256}, {0, 1}, {0, 256}, {256, 257}, {3, 300}} {
		a, b := sample(k[0]), sample(k[1])
		want := upTo(k[0], k[1]-1)
		if got, back := drive.Diff(a, b), drive.Diff(b, a); !slices.Equal(got, want) || !slices.Equal(back, want) {
			t.Errorf("Diff of %d and %d sectors is %v, and %v", k[0], k[1], got, back)
		}
		b.Sectors[0] = zeros
		if k[0] > 0 {
			want = append([]int{0}, want...)
		}
		if got, back := drive.Diff(a, b), drive.Diff(b, a); !slices.Equal(got, want) || !slices.Equal(back, want) {
			t.Errorf("Diff of %d and %d sectors with another sector 0 is %v, and %v", k[0], k[1], got, back)
		}
	}
	// A sector of zeros, or without bytes, that only one drive has differs too.
	a, _ := drive.New(2)
	b, _ := drive.New(4)
	if got, back := drive.Diff(a, b), drive.Diff(b, a); !slices.Equal(got, []int{2, 3}) || !slices.Equal(back, []int{2, 3}) {
		t.Errorf("Diff of new drives of 2 and 4 sectors is %v, and %v", got, back)
	}
	if got := drive.Diff(a, api.Drive{Sectors: append(slices.Clone(a.Sectors), "")}); !slices.Equal(got, []int{2}) {
		t.Errorf("Diff with an empty sector is %v", got)
	}
}

func TestDiffOfBadSectors(t *testing.T) {
	for _, x := range subsets(4) {
		for _, y := range subsets(4) {
			a, b := sample(4, x...), sample(4, y...)
			if got := drive.Diff(a, b); len(got) != 0 {
				t.Errorf("with the bad sectors %v and %v Diff is %v", x, y, got)
			}
			// A bad sector's content differs as that of any other one.
			b.Sectors[2] = zeros
			if got := drive.Diff(a, b); !slices.Equal(got, []int{2}) {
				t.Errorf("with the bad sectors %v and %v, and another sector 2, Diff is %v", x, y, got)
			}
		}
	}
}

func TestDiffOfWrongDrives(t *testing.T) {
	for _, k := range []struct {
		a, b api.Drive
		want []int
	}{
		{api.Drive{}, api.Drive{}, nil}, {api.Drive{Bad: []int{0}}, api.Drive{Bad: []int{-1, 5}}, nil},
		{api.Drive{}, sample(3), []int{0, 1, 2}}, {sample(3), api.Drive{Sectors: []string{}}, []int{0, 1, 2}},
		{api.Drive{Sectors: []string{"a", "b", ""}}, api.Drive{Sectors: []string{"a", "c"}}, []int{1, 2}},
		{api.Drive{Sectors: []string{"a"}}, api.Drive{Sectors: []string{"a\x00"}}, []int{0}}, {api.Drive{Sectors: []string{""}}, api.Drive{Sectors: []string{zeros}}, []int{0}},
		{sample(3, 7, -1, 7), sample(3, 1, 1), nil}, {sample(300), sample(300), nil}, {sample(300), sample(298), []int{298, 299}}, {sample(300), replaced(sample(300), 299, ""), []int{299}},
	} {
		if got, back := drive.Diff(k.a, k.b), drive.Diff(k.b, k.a); !slices.Equal(got, k.want) || !slices.Equal(back, k.want) {
			t.Errorf("Diff of %d and %d sectors is %v, and %v, want %v", len(k.a.Sectors), len(k.b.Sectors), got, back, k.want)
		}
	}
	wrong := wrongDrives()
	for _, a := range wrong {
		for _, b := range wrong {
			if got, want := drive.Diff(a, b), wantDiff(a, b); !slices.Equal(got, want) {
				t.Fatalf("Diff of %d and %d sectors is %v, want %v", len(a.Sectors), len(b.Sectors), got, want)
			}
		}
	}
}

// The examples of the chapter.

func TestExamples(t *testing.T) {
	d, _ := drive.New(2)
	x, e := drive.Write(d, 1, "ab")
	if s, f := drive.Read(x, 1); e != api.OK || f != api.OK || s != "ab"+strings.Repeat("\x00", 126) || !slices.Equal(drive.Diff(d, x), []int{1}) {
		t.Error("example 1:", s, e, f, drive.Diff(d, x))
	}
	x, _ = drive.Spoil(d, 0)
	_, e0 := drive.Read(x, 0)
	_, e1 := drive.Write(x, 0, "a")
	_, e2 := drive.Read(x, 2)
	_, e3 := drive.Write(x, 2, "a")
	_, e4 := drive.Write(x, 0, strings.Repeat("a", 129))
	if got := []api.Errno{e0, e1, e2, e3, e4}; !slices.Equal(got, []api.Errno{api.ErrIO, api.ErrIO, api.ErrRange, api.ErrRange, api.ErrLong}) {
		t.Error("example 2:", got)
	}
	l := []api.Write{{Sector: 1, Data: "a"}, {Sector: 0, Data: "b"}, {Sector: 1, Data: "c"}}
	for _, k := range []struct {
		fuse, made int
		e          api.Errno
		diff       []int
	}{{1, 1, api.OK, []int{1}}, {-1, 1, api.ErrIO, []int{1}}, {0, 0, api.OK, nil}} {
		y, made, e := drive.Apply(x, l, k.fuse)
		if made != k.made || e != k.e || !slices.Equal(drive.Diff(x, y), k.diff) {
			t.Errorf("example 3: with the fuse %d: %d writes, error %d, Diff %v", k.fuse, made, e, drive.Diff(x, y))
		}
	}
}
