package diskctl_test

import (
	"math"
	"slices"
	"strconv"
	"testing"

	"emulator/api"
	"emulator/diskctl"
	"emulator/drive"
	"emulator/memory"
)

// farInts has integers far from words and registers, many of which become one of them when they are cut to fewer bits.
var farInts = []int{math.MinInt, math.MinInt + 1, math.MinInt + 2, math.MinInt + 3, math.MinInt + 4, math.MinInt + 6, math.MinInt + 160, -1 << 62, -1<<62 + 2, -1<<62 + 67, -1 << 40, -1 << 32, -1<<32 + 1, -1<<32 + 2, -1<<32 + 4, -1<<32 + 6, -1<<32 + 160, -1 << 31, -1<<31 + 1, -65537, -65536, -65535, -65536 + 160, -32769, -32768, -257, -256, -255, -254, -250,
	65536, 65537, 65538, 65540, 65542, 65536 + 160, 131072, 1<<31 - 1, 1 << 31, 1<<31 + 2, 1<<32 - 1, 1 << 32, 1<<32 + 1, 1<<32 + 2, 1<<32 + 4, 1<<32 + 6, 1<<32 + 160, 1 << 40, 1<<40 + 67, 1 << 61, 1 << 62, 1<<62 + 2, 1<<62 + 160, math.MaxInt - 255, math.MaxInt - 64, math.MaxInt - 2, math.MaxInt - 1, math.MaxInt}

var bools = []bool{false, true}

// upTo returns the numbers from a first to a last one.
func upTo(first, last int) []int {
	var l []int
	for n := first; n <= last; n++ {
		l = append(l, n)
	}
	return l
}

// remainder returns n modulo d, from 0 on.
func remainder(n, d int) int {
	n %= d
	if n < 0 {
		n += d
	}
	return n
}

// text returns n bytes of all values. Texts of different kinds differ, if they have at least two bytes.
func text(n, kind int) string {
	b := make([]byte, n)
	for i := range b {
		b[i] = byte((37+2*(kind/256))*i + 101*kind + 200)
	}
	return string(b)
}

// disks returns a valid drive whose sectors all differ.
func disks(sectors int, bad ...int) api.Drive {
	d := api.Drive{Bad: slices.Clone(bad)}
	for i := range sectors {
		d.Sectors = append(d.Sectors, text(128, i))
	}
	return d
}

// words returns a memory whose words all differ from their neighbours, and from those of the drives.
func words(size int) []int {
	l := make([]int, size/2)
	for i := range l {
		l[i] = (i*40503 + 7) % 65536
	}
	return l
}

// idle returns a controller that is ready, with values of its registers.
func idle(d api.Drive, words, addr, start int) api.Disk {
	return api.Disk{Drive: d, Ready: true, Words: words, Addr: addr, Start: start}
}

// busy returns a controller of which so many ticks are left of a transfer.
func busy(d api.Drive, command, words, addr, start, left int) api.Disk {
	return api.Disk{Drive: d, Command: command, Words: words, Addr: addr, Start: start, Left: left}
}

// sameDrive reports whether two drives have the same sectors and bad sectors.
func sameDrive(a, b api.Drive) bool {
	return slices.Equal(a.Sectors, b.Sectors) && slices.Equal(a.Bad, b.Bad)
}

// same reports whether two controllers are equal in all fields.
func same(a, b api.Disk) bool {
	return a.Enable == b.Enable && a.Ready == b.Ready && a.Error == b.Error && a.Command == b.Command &&
		a.Words == b.Words && a.Addr == b.Addr && a.Start == b.Start && a.Left == b.Left && sameDrive(a.Drive, b.Drive)
}

// show returns the fields of a controller but for its drive.
func show(k api.Disk) string {
	s := ""
	for _, f := range []struct {
		name string
		set  bool
	}{{"Enable ", k.Enable}, {"Ready ", k.Ready}, {"Error ", k.Error}} {
		if f.set {
			s += f.name
		}
	}
	for _, f := range []struct {
		name string
		n    int
	}{{"Command", k.Command}, {" Words", k.Words}, {" Addr", k.Addr}, {" Start", k.Start}, {" Left", k.Left}, {" Sectors", len(k.Drive.Sectors)}} {
		s += f.name + " " + strconv.Itoa(f.n)
	}
	return s
}

// kept returns a copy of a controller.
func kept(k api.Disk) api.Disk {
	k.Drive = api.Drive{Sectors: slices.Clone(k.Drive.Sectors), Bad: slices.Clone(k.Drive.Bad)}
	return k
}

// flags are the bools of a controller that may be anything.
type flags struct {
	enable, wrong bool
}

var allFlags = []flags{{false, false}, {false, true}, {true, false}, {true, true}}

// with returns a controller with flags.
func with(k api.Disk, f flags) api.Disk {
	k.Enable, k.Error = f.enable, f.wrong
	return k
}

// registerValues has numbers of words, addresses and sectors.
var registerValues = [][3]int{{0, 0, 0}, {1, 2, 3}, {64, 256, 1}, {65, 65534, 65535}, {65535, 32768, 256}}

// validDisks returns valid controllers: with all flags, all commands, and all ticks that may be left.
func validDisks() []api.Disk {
	var all []api.Disk
	for _, d := range []api.Drive{disks(1), disks(4, 0, 2)} {
		for _, f := range allFlags {
			for _, v := range registerValues {
				for command := range 4 {
					k := with(idle(d, v[0], v[1], v[2]), f)
					k.Command = command
					all = append(all, k)
					for left := 1; left <= 8 && command != 0 && v[0] != 0; left++ {
						all = append(all, with(busy(d, command, v[0], v[1], v[2], left), f))
					}
				}
			}
		}
	}
	return all
}

// wrongDrives returns drives that are not valid.
func wrongDrives() []api.Drive {
	all := []api.Drive{{}, {Sectors: []string{}, Bad: []int{}}, {Bad: []int{0}}, {Sectors: []string{""}}, {Sectors: []string{"a", text(128, 1), ""}}, {Sectors: []string{text(127, 0)}}, {Sectors: []string{text(129, 0), text(300, 1)}},
		disks(257), disks(300, 299, 0), disks(1, 1), disks(2, -1), disks(3, math.MinInt, math.MaxInt), disks(4, 2, 2), disks(4, 3, 1), {Sectors: make([]string, 1000), Bad: make([]int, 1000)}}
	for i := range 3 {
		d := disks(3)
		d.Sectors[i] = text(127, 5)
		all = append(all, d)
	}
	return all
}

func TestHelpers(t *testing.T) {
	for _, k := range validDisks() {
		if !diskctl.Right(k) {
			t.Errorf("not valid: %s", show(k))
		}
	}
	for i, d := range wrongDrives() {
		if drive.Right(d) {
			t.Errorf("the wrong drive %d is valid", i)
		}
	}
	for _, k := range []struct{ n, low int }{{0, 0}, {65535, 65535}, {65536, 0}, {65537, 1}, {-1, 65535}, {-65536, 0}, {-65537, 65535}, {math.MinInt, 0}, {math.MinInt + 65, 65}, {math.MaxInt, 65535}} {
		if got := remainder(k.n, 65536); got != k.low {
			t.Errorf("%d modulo 65536 is %d", k.n, got)
		}
	}
	if !memory.Right(words(256), nil) || !memory.Right(words(32768), nil) || len(words(32768)) != 16384 {
		t.Error("the memories of the test are not valid")
	}
	a := busy(disks(2, 1), 1, 2, 4, 3, 5)
	for i, change := range []func(k *api.Disk){
		func(k *api.Disk) { k.Enable = true }, func(k *api.Disk) { k.Ready = true }, func(k *api.Disk) { k.Error = true },
		func(k *api.Disk) { k.Command++ }, func(k *api.Disk) { k.Words++ }, func(k *api.Disk) { k.Addr++ }, func(k *api.Disk) { k.Start++ }, func(k *api.Disk) { k.Left++ },
		func(k *api.Disk) { k.Drive.Sectors[1] = "" }, func(k *api.Disk) { k.Drive.Bad = nil }, func(k *api.Disk) { k.Drive.Sectors = k.Drive.Sectors[:1] },
	} {
		b := kept(a)
		if !same(a, b) {
			t.Error("a copy differs")
		}
		change(&b)
		if same(a, b) {
			t.Errorf("change %d is not seen", i)
		}
	}
}

// P16.1: New, Right, Reset.

func TestNew(t *testing.T) {
	for _, d := range append(wrongDrives(), disks(1), disks(1, 0), disks(2), disks(8, 0, 3, 7), disks(255, 254), disks(256), disks(256, upTo(0, 255)...)) {
		k := diskctl.New(d)
		if !k.Ready || k.Enable || k.Error || k.Command != 0 || k.Words != 0 || k.Addr != 0 || k.Start != 0 || k.Left != 0 {
			t.Errorf("new: %s", show(k))
		}
		if !sameDrive(k.Drive, d) {
			t.Errorf("New of a drive of %d sectors has another one", len(d.Sectors))
		}
		if diskctl.Right(k) != drive.Right(d) {
			t.Errorf("New of a drive of %d sectors: Right is %v", len(d.Sectors), diskctl.Right(k))
		}
	}
}

// isWord reports whether a number is a word.
func isWord(n int) bool {
	return n > -1 && n < 65536
}

// wantRight reports whether a controller is valid, field by field.
func wantRight(k api.Disk) bool {
	if k.Command < 0 || k.Command > 3 || !isWord(k.Words) || !isWord(k.Start) || !isWord(k.Addr) || remainder(k.Addr, 2) == 1 {
		return false
	}
	if k.Left == 0 {
		return k.Ready && drive.Right(k.Drive)
	}
	return k.Left > 0 && k.Left < 9 && !k.Ready && k.Command > 0 && k.Words > 0 && drive.Right(k.Drive)
}

func TestRightAtAllBounds(t *testing.T) {
	valid, count := 0, 0
	for _, d := range []api.Drive{disks(1), disks(2, 1), {}, disks(2, 2)} {
		for _, command := range []int{-1, 0, 1, 2, 3, 4} {
			for _, n := range []int{-1, 0, 1, 65535, 65536} {
				for _, addr := range []int{-2, -1, 0, 1, 2, 3, 65534, 65535, 65536} {
					for _, start := range []int{-1, 0, 1, 65535, 65536} {
						for _, left := range []int{-1, 0, 1, 2, 7, 8, 9} {
							for _, f := range allFlags {
								for _, ready := range bools {
									k := with(busy(d, command, n, addr, start, left), f)
									k.Ready = ready
									want := wantRight(k)
									if got := diskctl.Right(k); got != want {
										t.Fatalf("%v: %s", got, show(k))
									}
									count++
									if want {
										valid++
									}
								}
							}
						}
					}
				}
			}
		}
	}
	if valid < 1000 || valid > count/10 {
		t.Errorf("%d of %d are valid", valid, count)
	}
}

func TestRightByHand(t *testing.T) {
	d := disks(4)
	for _, c := range []struct {
		k    api.Disk
		want bool
	}{
		{api.Disk{}, false},
		{api.Disk{Ready: true}, false},
		{api.Disk{Drive: d}, false},
		{api.Disk{Drive: d, Ready: true}, true},
		{api.Disk{Drive: d, Ready: true, Command: 3}, true},
		{api.Disk{Drive: d, Ready: true, Command: 4}, false},
		{api.Disk{Drive: d, Ready: true, Command: -1}, false},
		{api.Disk{Drive: d, Ready: true, Words: 65535, Addr: 65534, Start: 65535, Enable: true, Error: true}, true},
		{api.Disk{Drive: d, Ready: true, Words: 65536}, false},
		{api.Disk{Drive: d, Ready: true, Words: -1}, false},
		{api.Disk{Drive: d, Ready: true, Addr: 65535}, false},
		{api.Disk{Drive: d, Ready: true, Addr: 65536}, false},
		{api.Disk{Drive: d, Ready: true, Addr: 1}, false},
		{api.Disk{Drive: d, Ready: true, Addr: -1}, false},
		{api.Disk{Drive: d, Ready: true, Addr: -2}, false},
		{api.Disk{Drive: d, Ready: true, Start: 65536}, false},
		{api.Disk{Drive: d, Ready: true, Start: -1}, false},
		{api.Disk{Drive: d, Command: 1, Words: 1, Left: 1}, true},
		{api.Disk{Drive: d, Command: 3, Words: 65535, Left: 8}, true},
		{api.Disk{Drive: d, Command: 1, Words: 1, Left: 9}, false},
		{api.Disk{Drive: d, Command: 1, Words: 1, Left: -1}, false},
		{api.Disk{Drive: d, Command: 0, Words: 1, Left: 8}, false},
		{api.Disk{Drive: d, Command: 1, Words: 0, Left: 8}, false},
		{api.Disk{Drive: d, Command: 1, Words: 1, Left: 8, Ready: true}, false},
		{api.Disk{Drive: d, Command: 1, Words: 1}, false},
	} {
		if got := diskctl.Right(c.k); got != c.want {
			t.Errorf("%v: %s", got, show(c.k))
		}
	}
}

func TestRightFarAway(t *testing.T) {
	for _, n := range append([]int{-3, -2, -1}, farInts...) {
		for _, k := range []api.Disk{busy(disks(1), 2, 9, 8, 7, 6), idle(disks(1), 9, 8, 7)} {
			for i, change := range []func(k *api.Disk){
				func(k *api.Disk) { k.Command = n }, func(k *api.Disk) { k.Words = n }, func(k *api.Disk) { k.Addr = n }, func(k *api.Disk) { k.Start = n }, func(k *api.Disk) { k.Left = n },
			} {
				x := kept(k)
				change(&x)
				if diskctl.Right(x) {
					t.Errorf("valid with %d in field %d: %s", n, i, show(x))
				}
			}
		}
	}
}

func TestRightOfDrives(t *testing.T) {
	for i, d := range wrongDrives() {
		for _, k := range []api.Disk{idle(d, 0, 0, 0), idle(d, 9, 8, 7), busy(d, 1, 2, 4, 0, 8)} {
			if diskctl.Right(k) {
				t.Errorf("valid with the wrong drive %d", i)
			}
		}
	}
	for _, d := range []api.Drive{disks(1), disks(1, 0), disks(256), disks(256, 0, 255), disks(256, upTo(0, 255)...)} {
		for _, k := range []api.Disk{idle(d, 0, 0, 0), idle(d, 9, 8, 7), busy(d, 1, 2, 4, 0, 8)} {
			if !diskctl.Right(k) {
				t.Errorf("not valid with a drive of %d sectors", len(d.Sectors))
			}
		}
	}
}

func TestReset(t *testing.T) {
	for _, k := range validDisks() {
		r := diskctl.Reset(k)
		want := api.Disk{Drive: k.Drive, Ready: true, Words: k.Words, Addr: k.Addr, Start: k.Start}
		if !same(r, want) || !diskctl.Right(r) {
			t.Fatalf("Reset of %s: %s", show(k), show(r))
		}
		if again := diskctl.Reset(r); !same(again, want) {
			t.Fatalf("Reset twice of %s: %s", show(k), show(again))
		}
	}
}

func TestResetEndsATransfer(t *testing.T) {
	// In the middle of a transfer: one sector has been read, and three ticks have passed.
	mem := words(512)
	k := diskctl.New(disks(4))
	k = began(t, k, 64, 1, 100, 128, 1)
	k, mem, _ = ticks(k, mem, nil, 11)
	r := diskctl.Reset(k)
	if !same(r, idle(disks(4), 36, 256, 2)) {
		t.Fatalf("Reset: %s", show(r))
	}
	after, mem2, _ := ticks(r, mem, nil, 20)
	if !same(after, r) || !slices.Equal(mem2, mem) {
		t.Error("the transfer goes on")
	}
	// It can be begun again where it was.
	r, _ = diskctl.Write(r, 0, 3)
	r, mem2, _ = ticks(r, mem2, nil, 8)
	if s, _ := diskctl.Read(r, 0); s != 130 || r.Words != 0 || r.Start != 3 {
		t.Errorf("after Reset: %s", show(r))
	}
	if got, _ := memory.Bytes(mem2, 128, 200); got != text(128, 1)+text(128, 2)[:72] {
		t.Errorf("after Reset: %q", got)
	}
}

// began returns the controller that has begun a transfer, whose registers were written. The status is that of the command and of the other bits.
func began(t *testing.T, k api.Disk, other, command, words, addr, start int) api.Disk {
	t.Helper()
	for _, w := range [][2]int{{2, words}, {4, addr}, {6, start}, {0, other + 2*command + 1}} {
		next, ok := diskctl.Write(k, w[0], w[1])
		if !ok {
			t.Fatalf("Write of %d to %d is false", w[1], w[0])
		}
		k = next
	}
	if k.Ready || k.Error || k.Left != 8 {
		t.Fatalf("no transfer has begun: %s", show(k))
	}
	return k
}

// ticks returns the controller, the memory and the bad addresses after some ticks.
func ticks(k api.Disk, mem, bad []int, n int) (api.Disk, []int, []int) {
	for range n {
		k, mem, bad = diskctl.Tick(k, mem, bad)
	}
	return k, mem, bad
}

// P16.2: Read.

func TestReadOfTheStatus(t *testing.T) {
	for _, k := range validDisks() {
		want := []int{0, 2, 4, 6}[k.Command]
		if k.Enable {
			want += 64
		}
		if k.Ready {
			want += 128
		}
		if k.Error {
			want += 32768
		}
		if got, ok := diskctl.Read(k, 0); got != want || !ok {
			t.Fatalf("status %d, %v of %s", got, ok, show(k))
		}
	}
}

func TestReadOfTheStatusByHand(t *testing.T) {
	d := disks(1)
	for _, c := range []struct {
		k    api.Disk
		want int
	}{
		{diskctl.New(d), 128},
		{api.Disk{Drive: d, Ready: true, Command: 1}, 130},
		{api.Disk{Drive: d, Ready: true, Command: 2}, 132},
		{api.Disk{Drive: d, Ready: true, Command: 3}, 134},
		{api.Disk{Drive: d, Ready: true, Enable: true}, 192},
		{api.Disk{Drive: d, Ready: true, Error: true}, 32896},
		{api.Disk{Drive: d, Ready: true, Error: true, Enable: true, Command: 3}, 32966},
		{api.Disk{Drive: d, Command: 1, Words: 65535, Addr: 65534, Start: 65535, Left: 8}, 2},
		{api.Disk{Drive: d, Command: 2, Words: 1, Left: 1, Enable: true}, 68},
		{api.Disk{Drive: d, Command: 3, Words: 1, Left: 7, Error: true}, 32774},
	} {
		if got, ok := diskctl.Read(c.k, 0); got != c.want || !ok {
			t.Errorf("status %d, %v of %s", got, ok, show(c.k))
		}
	}
}

func TestReadOfTheOtherRegisters(t *testing.T) {
	for _, k := range validDisks() {
		for _, c := range []struct{ reg, want int }{{2, k.Words}, {4, k.Addr}, {6, k.Start}} {
			if got, ok := diskctl.Read(k, c.reg); got != c.want || !ok {
				t.Fatalf("register %d: %d, %v of %s", c.reg, got, ok, show(k))
			}
		}
	}
	for v := 0; v <= 65535; v += 2 {
		k := idle(disks(1), v+1, v, 65535-v)
		a, _ := diskctl.Read(k, 2)
		b, _ := diskctl.Read(k, 4)
		c, _ := diskctl.Read(k, 6)
		if a != v+1 || b != v || c != 65535-v {
			t.Fatalf("registers %d, %d, %d of %s", a, b, c, show(k))
		}
	}
}

// noRegisters returns numbers that are no offsets of registers.
func noRegisters() []int {
	all := slices.Clone(farInts)
	for n := -300; n <= 1100; n++ {
		if n != 0 && n != 2 && n != 4 && n != 6 {
			all = append(all, n)
		}
	}
	return all
}

func TestReadOfNoRegister(t *testing.T) {
	for _, k := range []api.Disk{idle(disks(1), 9, 8, 7), with(idle(disks(4, 1), 65535, 65534, 65535), flags{true, true}), busy(disks(1), 3, 9, 8, 7, 6)} {
		for _, reg := range noRegisters() {
			if got, ok := diskctl.Read(k, reg); got != 0 || ok {
				t.Errorf("register %d: %d, %v", reg, got, ok)
			}
		}
	}
}

// P16.3: Write.

// bit reports whether a bit with a value of a number is set.
func bit(v, value int) bool {
	return remainder(v, 2*value) >= value
}

// wantWrite returns the controller in which a register has been written.
func wantWrite(k api.Disk, reg, v int) api.Disk {
	w := remainder(v, 65536)
	switch {
	case reg == 0:
		k.Enable = bit(w, 64)
		if k.Left == 0 && bit(w, 1) {
			k.Command = w % 8 / 2
			k.Error = false
			if k.Command > 0 && k.Words > 0 {
				k.Ready = false
				k.Left = 8
			}
		}
	case k.Left > 0:
	case reg == 2:
		k.Words = w
	case reg == 4:
		k.Addr = w / 2 * 2
	case reg == 6:
		k.Start = w
	}
	return k
}

// checkWrite compares Write with wantWrite.
func checkWrite(t *testing.T, k api.Disk, reg, v int) {
	t.Helper()
	got, ok := diskctl.Write(k, reg, v)
	if want := wantWrite(k, reg, v); !ok || !same(got, want) || !diskctl.Right(got) {
		t.Fatalf("Write of %d to %d of %s: %s, %v, want %s", v, reg, show(k), show(got), ok, show(want))
	}
}

func TestWriteOfAllDisks(t *testing.T) {
	values := slices.Concat(upTo(-20, 20), []int{-129, -128, -127, -65, -64, -63, 62, 63, 64, 65, 66, 67, 70, 71, 126, 127, 128, 129, 130, 135, 191, 192, 193, 255, 256, 257, 32766, 32767, 32768, 32769, 32775, 65533, 65534, 65535}, farInts)
	for _, k := range validDisks() {
		for _, reg := range []int{0, 2, 4, 6} {
			for _, v := range values {
				checkWrite(t, k, reg, v)
			}
		}
	}
}

func TestWriteOfAllWords(t *testing.T) {
	for _, k := range []api.Disk{idle(disks(1), 9, 8, 7), with(idle(disks(1), 0, 8, 7), flags{true, true}), with(busy(disks(1), 2, 9, 8, 7, 6), flags{false, true})} {
		for _, reg := range []int{0, 2, 4, 6} {
			for v := range 65536 {
				checkWrite(t, k, reg, v)
			}
		}
	}
}

func TestWriteOfTheStatusByHand(t *testing.T) {
	d := disks(1)
	for _, c := range []struct {
		k    api.Disk
		v    int
		want api.Disk
	}{
		// Without bit 0 only Enable is taken.
		{idle(d, 5, 4, 3), 0, api.Disk{Drive: d, Ready: true, Words: 5, Addr: 4, Start: 3}},
		{idle(d, 5, 4, 3), 65534, api.Disk{Drive: d, Ready: true, Words: 5, Addr: 4, Start: 3, Enable: true}},
		{idle(d, 5, 4, 3), 2, api.Disk{Drive: d, Ready: true, Words: 5, Addr: 4, Start: 3}},
		{with(idle(d, 5, 4, 3), flags{true, true}), 6, api.Disk{Drive: d, Ready: true, Words: 5, Addr: 4, Start: 3, Error: true}},
		{api.Disk{Drive: d, Ready: true, Words: 5, Command: 3, Error: true}, 64, api.Disk{Drive: d, Ready: true, Words: 5, Command: 3, Error: true, Enable: true}},
		// Bit 0 begins a transfer.
		{idle(d, 5, 4, 3), 3, api.Disk{Drive: d, Words: 5, Addr: 4, Start: 3, Command: 1, Left: 8}},
		{idle(d, 5, 4, 3), 5, api.Disk{Drive: d, Words: 5, Addr: 4, Start: 3, Command: 2, Left: 8}},
		{idle(d, 5, 4, 3), 71, api.Disk{Drive: d, Words: 5, Addr: 4, Start: 3, Command: 3, Left: 8, Enable: true}},
		{idle(d, 5, 4, 3), 65535, api.Disk{Drive: d, Words: 5, Addr: 4, Start: 3, Command: 3, Left: 8, Enable: true}},
		{idle(d, 5, 4, 3), -1, api.Disk{Drive: d, Words: 5, Addr: 4, Start: 3, Command: 3, Left: 8, Enable: true}},
		{idle(d, 5, 4, 3), 65536 + 3, api.Disk{Drive: d, Words: 5, Addr: 4, Start: 3, Command: 1, Left: 8}},
		{idle(d, 5, 4, 3), -65536 + 5, api.Disk{Drive: d, Words: 5, Addr: 4, Start: 3, Command: 2, Left: 8}},
		{api.Disk{Drive: d, Ready: true, Words: 1, Command: 3, Error: true, Enable: true}, 3, api.Disk{Drive: d, Words: 1, Command: 1, Left: 8}},
		// None begins with the command 0 or without words, but the error is cleared.
		{api.Disk{Drive: d, Ready: true, Words: 5, Command: 3, Error: true}, 1, api.Disk{Drive: d, Ready: true, Words: 5}},
		{api.Disk{Drive: d, Ready: true, Words: 5, Command: 3, Error: true}, 32889, api.Disk{Drive: d, Ready: true, Words: 5, Enable: true}},
		{api.Disk{Drive: d, Ready: true, Addr: 4, Start: 3, Command: 1, Error: true}, 7, api.Disk{Drive: d, Ready: true, Addr: 4, Start: 3, Command: 3}},
		{api.Disk{Drive: d, Ready: true, Error: true}, 3, api.Disk{Drive: d, Ready: true, Command: 1}},
		// While a transfer is in progress only Enable is taken.
		{busy(d, 2, 5, 4, 3, 1), 71, api.Disk{Drive: d, Words: 5, Addr: 4, Start: 3, Command: 2, Left: 1, Enable: true}},
		{with(busy(d, 2, 5, 4, 3, 7), flags{true, true}), 3, api.Disk{Drive: d, Words: 5, Addr: 4, Start: 3, Command: 2, Left: 7, Error: true}},
		{with(busy(d, 2, 5, 4, 3, 8), flags{true, false}), 0, api.Disk{Drive: d, Words: 5, Addr: 4, Start: 3, Command: 2, Left: 8}},
		{busy(d, 2, 5, 4, 3, 8), 1, api.Disk{Drive: d, Words: 5, Addr: 4, Start: 3, Command: 2, Left: 8}},
	} {
		if got, ok := diskctl.Write(c.k, 0, c.v); !ok || !same(got, c.want) {
			t.Errorf("Write of %d to the status of %s: %s, %v, want %s", c.v, show(c.k), show(got), ok, show(c.want))
		}
	}
}

func TestWriteOfTheOtherRegistersByHand(t *testing.T) {
	for _, c := range []struct{ reg, v, want int }{
		{2, 0, 0}, {2, 1, 1}, {2, 65535, 65535}, {2, 65536, 0}, {2, 65537, 1}, {2, -1, 65535}, {2, -65536, 0}, {2, -65535, 1}, {2, math.MinInt, 0}, {2, math.MaxInt, 65535},
		{4, 0, 0}, {4, 1, 0}, {4, 2, 2}, {4, 3, 2}, {4, 513, 512}, {4, 65534, 65534}, {4, 65535, 65534}, {4, 65536, 0}, {4, 65537, 0}, {4, 65539, 2}, {4, -1, 65534}, {4, -2, 65534}, {4, -3, 65532}, {4, math.MinInt + 1, 0}, {4, math.MaxInt, 65534},
		{6, 0, 0}, {6, 1, 1}, {6, 65535, 65535}, {6, 65536, 0}, {6, 65537, 1}, {6, -1, 65535}, {6, -65535, 1}, {6, math.MinInt, 0}, {6, math.MaxInt, 65535},
	} {
		k := with(idle(disks(2), 11, 22, 33), flags{true, true})
		x, ok := diskctl.Write(k, c.reg, c.v)
		got, _ := diskctl.Read(x, c.reg)
		if got != c.want || !ok {
			t.Errorf("Write of %d to %d: %d, %v", c.v, c.reg, got, ok)
		}
		// The other registers, and the status, are as they were.
		for _, reg := range []int{0, 2, 4, 6} {
			before, _ := diskctl.Read(k, reg)
			after, _ := diskctl.Read(x, reg)
			if reg != c.reg && before != after {
				t.Errorf("Write of %d to %d changes register %d", c.v, c.reg, reg)
			}
		}
		b := with(busy(disks(2), 1, 11, 22, 33, 4), flags{false, true})
		if x, ok := diskctl.Write(b, c.reg, c.v); !ok || !same(x, b) {
			t.Errorf("Write of %d to %d during a transfer: %s, %v", c.v, c.reg, show(x), ok)
		}
	}
}

func TestWriteOfNoRegister(t *testing.T) {
	for _, k := range []api.Disk{idle(disks(1), 9, 8, 7), with(idle(disks(4, 1), 65535, 65534, 65535), flags{true, true}), busy(disks(1), 3, 9, 8, 7, 6)} {
		for _, reg := range noRegisters() {
			for _, v := range []int{0, 1, 3, 71, 65535, -1} {
				if got, ok := diskctl.Write(k, reg, v); ok || !same(got, api.Disk{}) {
					t.Fatalf("Write of %d to %d: %s, %v", v, reg, show(got), ok)
				}
			}
		}
	}
}

func TestWriteAfterAnError(t *testing.T) {
	mem := words(256)
	k := began(t, diskctl.New(disks(2)), 64, 2, 3, 10, 2)
	k, _, _ = ticks(k, mem, nil, 8)
	if s, _ := diskctl.Read(k, 0); s != 32768+128+64+4 {
		t.Fatalf("status %d", s)
	}
	// The registers can be written; the error remains until bit 0 is.
	for _, w := range [][2]int{{6, 1}, {2, 2}, {4, 21}, {0, 0}, {0, 6}} {
		k, _ = diskctl.Write(k, w[0], w[1])
		if !k.Error || !k.Ready || k.Command != 2 {
			t.Fatalf("after Write of %d to %d: %s", w[1], w[0], show(k))
		}
	}
	again, _ := diskctl.Write(k, 0, 5)
	if !same(again, busy(disks(2), 2, 2, 20, 1, 8)) {
		t.Errorf("after Write of the command: %s", show(again))
	}
	cleared, _ := diskctl.Write(k, 0, 1)
	if !same(cleared, idle(disks(2), 2, 20, 1)) {
		t.Errorf("after Write of no command: %s", show(cleared))
	}
}

// P16.5: Requests, Accept.

func TestRequests(t *testing.T) {
	for _, k := range validDisks() {
		got := diskctl.Requests(k)
		if k.Enable && k.Ready {
			if len(got) != 1 || got[0].Priority != 5 || got[0].Vector != 160 {
				t.Fatalf("requests %v of %s", got, show(k))
			}
		} else if len(got) != 0 {
			t.Fatalf("requests %v of %s", got, show(k))
		}
	}
}

func TestAccept(t *testing.T) {
	vectors := slices.Concat(upTo(-300, 600), farInts)
	for _, k := range []api.Disk{with(idle(disks(2, 0), 9, 8, 7), flags{true, true}), with(idle(disks(2), 9, 8, 7), flags{true, false}), with(idle(disks(1), 9, 8, 7), flags{false, true}), with(busy(disks(1), 3, 9, 8, 7, 6), flags{true, true})} {
		for _, vector := range vectors {
			want := k
			if vector == 160 {
				want.Enable = false
			}
			if got := diskctl.Accept(k, vector); !same(got, want) {
				t.Fatalf("Accept of %d of %s: %s", vector, show(k), show(got))
			}
		}
	}
	for _, k := range validDisks() {
		got := diskctl.Accept(k, 160)
		if want := with(k, flags{false, k.Error}); !same(got, want) || len(diskctl.Requests(got)) != 0 || !diskctl.Right(got) {
			t.Fatalf("Accept of %s: %s", show(k), show(got))
		}
		if got := diskctl.Accept(k, 164); !same(got, k) {
			t.Fatalf("Accept of 164 of %s: %s", show(k), show(got))
		}
	}
}

func TestInterruptOfATransfer(t *testing.T) {
	// The interrupt is requested when the transfer ends, be it with an error or without.
	for _, start := range []int{1, 2} {
		k, mem, bad := began(t, diskctl.New(disks(2)), 64, 1, 1, 0, start), words(256), []int(nil)
		for n := range 8 {
			if l := diskctl.Requests(k); len(l) != 0 {
				t.Errorf("requests %v after %d ticks", l, n)
			}
			k, mem, bad = diskctl.Tick(k, mem, bad)
		}
		if l := diskctl.Requests(k); len(l) != 1 || l[0] != (api.Request{Priority: 5, Vector: 160}) || k.Error != (start == 2) {
			t.Errorf("requests %v of %s", l, show(k))
		}
		k = diskctl.Accept(k, 160)
		k, _, _ = ticks(k, mem, bad, 9)
		if l := diskctl.Requests(k); len(l) != 0 {
			t.Errorf("requests %v after Accept", l)
		}
		k, _ = diskctl.Write(k, 0, 64)
		if l := diskctl.Requests(k); len(l) != 1 {
			t.Errorf("requests %v after Write of 64", l)
		}
	}
}

// The chapter's examples.

func TestExamples(t *testing.T) {
	k, mem := diskctl.New(disks(64)), words(1024)
	if s, ok := diskctl.Read(k, 0); s != 128 || !ok {
		t.Errorf("example 1: status %d", s)
	}
	for _, w := range [][2]int{{2, 1}, {4, 512}, {6, 3}, {0, 3}} {
		k, _ = diskctl.Write(k, w[0], w[1])
	}
	if s, _ := diskctl.Read(k, 0); s != 2 {
		t.Errorf("example 1: status %d", s)
	}
	k, mem, bad := ticks(k, mem, nil, 7)
	if k.Left != 1 || !slices.Equal(mem, words(1024)) {
		t.Errorf("example 1: %d left", k.Left)
	}
	k, mem, _ = diskctl.Tick(k, mem, bad)
	for reg, want := range map[int]int{0: 130, 2: 0, 4: 514, 6: 4} {
		if got, _ := diskctl.Read(k, reg); got != want {
			t.Errorf("example 1: register %d is %d", reg, got)
		}
	}
	if sector := disks(64).Sectors[3]; mem[256] != int(sector[0])+256*int(sector[1]) {
		t.Errorf("example 1: %d", mem[256])
	}
	for _, w := range [][2]int{{2, 1}, {6, 200}, {0, 3}} {
		k, _ = diskctl.Write(k, w[0], w[1])
	}
	k, _, _ = ticks(k, mem, nil, 8)
	s, _ := diskctl.Read(k, 0)
	if n, _ := diskctl.Read(k, 2); s != 32898 || n != 1 {
		t.Errorf("example 2: status %d, words %d", s, n)
	}
}
