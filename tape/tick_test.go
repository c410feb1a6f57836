package tape_test

import (
	"slices"
	"strconv"
	"testing"

	"emulator/api"
	"emulator/memory"
	"emulator/tape"
)

// P17.4: Tick.

// model is a unit with its tape and a memory. The tape is in two parts, before and behind the head; the memory is in bytes.
type model struct {
	u               api.Tape
	passed, further []string
	bytes           []byte
	// spoilt has the addresses of both bytes of each word with wrong parity.
	spoilt map[int]bool
}

// modelOf returns the model of a valid unit with a memory.
func modelOf(u api.Tape, mem, bad []int) *model {
	m := &model{u: u, spoilt: map[int]bool{}}
	for i, r := range u.Records {
		if i < u.Pos {
			m.passed = append(m.passed, r)
		} else {
			m.further = append(m.further, r)
		}
	}
	for _, w := range mem {
		m.bytes = append(m.bytes, byte(w%256), byte(w/256))
	}
	for _, addr := range bad {
		m.spoilt[addr], m.spoilt[addr+1] = true, true
	}
	return m
}

// parts returns the unit with its memory, as lists.
func (m *model) parts() (u api.Tape, mem, bad []int) {
	u = m.u
	u.Records = slices.Concat(m.passed, m.further)
	u.Pos = len(m.passed)
	for addr := 0; addr < len(m.bytes); addr += 2 {
		mem = append(mem, int(m.bytes[addr])+256*int(m.bytes[addr+1]))
		if m.spoilt[addr] {
			bad = append(bad, addr)
		}
	}
	return u, mem, bad
}

// forward moves the head over a record, and returns it.
func (m *model) forward() (string, bool) {
	if len(m.further) == 0 {
		m.u.Error, m.u.End = true, true
		return "", false
	}
	r := m.further[0]
	m.passed, m.further = append(m.passed, r), m.further[1:]
	if len(r) == 0 {
		m.u.Mark = true
	}
	return r, true
}

// back moves the head back over a record.
func (m *model) back() {
	n := len(m.passed)
	if n == 0 {
		m.u.End = true
		return
	}
	r := m.passed[n-1]
	m.passed, m.further = m.passed[:n-1], slices.Concat([]string{r}, m.further)
	if len(r) == 0 {
		m.u.Mark = true
	}
}

// put appends a record to the tape.
func (m *model) put(r string) {
	if len(m.passed) == 64 {
		m.u.Error, m.u.End = true, true
		return
	}
	m.passed, m.further = append(m.passed, r), nil
}

// read reads a record to memory, byte by byte.
func (m *model) read() {
	r, ok := m.forward()
	if !ok {
		return
	}
	k := len(r)
	if k > m.u.Count {
		m.u.Error = true
		k = m.u.Count
	}
	if m.u.Addr+k > len(m.bytes) {
		m.u.Error = true
		return
	}
	for i := range k {
		addr := m.u.Addr + i
		m.bytes[addr] = r[i]
		delete(m.spoilt, addr)
		// The other byte of the word has the next address, or the one before.
		if addr%2 == 0 {
			delete(m.spoilt, addr+1)
		} else {
			delete(m.spoilt, addr-1)
		}
	}
	m.u.Count -= k
}

// write writes a record from memory.
func (m *model) write() {
	from, end := m.u.Addr, m.u.Addr+m.u.Count
	if from == end || m.u.Count > 512 || end > len(m.bytes) {
		m.u.Error = true
		return
	}
	for addr := from; addr < end; addr++ {
		if m.spoilt[addr] {
			m.u.Error = true
			return
		}
	}
	m.put(string(m.bytes[from:end]))
}

// tick lets a tick pass.
func (m *model) tick() {
	if m.u.Left == 0 {
		return
	}
	m.u.Left--
	if m.u.Left > 0 {
		return
	}
	m.u.Ready = true
	switch m.u.Command {
	case 1:
		m.read()
	case 2:
		m.write()
	case 3:
		m.forward()
	case 4:
		m.back()
	case 5:
		m.passed, m.further = nil, slices.Concat(m.passed, m.further)
	case 6:
		m.put("")
	}
}

// describe returns what a tick works on.
func describe(u api.Tape, mem, bad []int) string {
	s := show(u) + ", " + strconv.Itoa(len(mem)) + " words, bad addresses"
	for _, n := range bad {
		s += " " + strconv.Itoa(n)
	}
	return s
}

// checkTick compares a tick with that of the model, and returns its results.
func checkTick(t *testing.T, u api.Tape, mem, bad []int) (api.Tape, []int, []int) {
	t.Helper()
	m := modelOf(u, mem, bad)
	m.tick()
	wantUnit, wantMem, wantBad := m.parts()
	x, y, z := tape.Tick(u, mem, bad)
	if !same(x, wantUnit) {
		t.Fatalf("Tick of %s: %s, want %s", describe(u, mem, bad), show(x), show(wantUnit))
	}
	if !slices.Equal(y, wantMem) {
		t.Fatalf("Tick of %s: the memory is wrong", describe(u, mem, bad))
	}
	if !slices.Equal(z, wantBad) {
		t.Fatalf("Tick of %s: the bad addresses %v, want %v", describe(u, mem, bad), z, wantBad)
	}
	if !tape.Right(x) || !memory.Right(y, z) {
		t.Fatalf("Tick of %s: the result is not valid", describe(u, mem, bad))
	}
	return x, y, z
}

// all returns the addresses of all words of a memory with so many bytes.
func all(size int) []int {
	var l []int
	for a := 0; a < size; a += 2 {
		l = append(l, a)
	}
	return l
}

// near returns lists of bad addresses: those of single words around and within n bytes from an address on, of all words, of the words that the bytes do not touch, and of none.
func near(size, addr, n int) [][]int {
	lists := [][]int{nil, all(size)}
	var others []int
	for _, a := range all(size) {
		if a+1 < addr || a >= addr+n {
			others = append(others, a)
		}
		if a >= addr-4 && a < addr+6 || a >= addr+n-6 && a < addr+n+4 || a == (addr+n/2)/2*2 {
			lists = append(lists, []int{a})
		}
	}
	return append(lists, others)
}

func TestTickWithoutACommand(t *testing.T) {
	for _, u := range validUnits() {
		if u.Left != 0 {
			continue
		}
		for _, bad := range [][]int{nil, {0}, {2, 4, 254}} {
			x, y, z := tape.Tick(u, words(256), bad)
			if !same(x, u) || !slices.Equal(y, words(256)) || !slices.Equal(z, bad) {
				t.Fatalf("Tick of %s: %s, bad addresses %v", show(u), show(x), z)
			}
		}
	}
}

func TestTickBeforeTheLast(t *testing.T) {
	for _, p := range positions() {
		for _, f := range allFlags() {
			for command := range 7 {
				for left := 16; left > 1; left-- {
					u := with(busy(p.Records, p.Pos, command, 2, 3, left), f)
					x, y, z := tape.Tick(u, words(256), []int{2, 4, 254})
					want := u
					want.Left--
					if !same(x, want) || !slices.Equal(y, words(256)) || !slices.Equal(z, []int{2, 4, 254}) {
						t.Fatalf("Tick of %s: %s, bad addresses %v", show(u), show(x), z)
					}
				}
			}
		}
	}
}

func TestTickOfAllUnits(t *testing.T) {
	for _, u := range validUnits() {
		for _, bad := range [][]int{nil, {0, 2, 4, 254}} {
			checkTick(t, u, words(256), bad)
		}
	}
}

func TestEveryTickOfACommand(t *testing.T) {
	for _, p := range positions() {
		for command := 1; command <= 6; command++ {
			for _, other := range []int{0, 64} {
				u, mem, bad := began(t, idle(p.Records, p.Pos, 3, 5), other, command), words(256), []int{4, 6, 8}
				for n := range 16 {
					if u.Left != 16-n || u.Ready {
						t.Fatalf("after %d ticks: %s", n, show(u))
					}
					u, mem, bad = checkTick(t, u, mem, bad)
				}
				if u.Left != 0 || !u.Ready || u.Enable != (other == 64) || u.Command != command {
					t.Fatalf("after all ticks: %s", show(u))
				}
			}
		}
	}
}

// counts has numbers of bytes around a length.
func counts(length int) []int {
	return []int{0, 1, 2, 3, max(length-1, 0), length, length + 1, 255, 256, 511, 512, 513, 1024, 65535}
}

// addresses has addresses at the beginning of a memory, and around those from which n bytes reach to its end.
func addresses(size, n int) []int {
	l := []int{0, 1, 2, 3, 100, 101, size - 2, size - 1, size, size + 1, size + 2, 32767, 32768, 65534, 65535}
	for a := size - n - 3; a <= size-n+3; a++ {
		if a >= 0 && a <= 65535 {
			l = append(l, a)
		}
	}
	return l
}

func TestReadOfRecords(t *testing.T) {
	stored, failed := 0, 0
	for _, size := range []int{256, 512, 1024} {
		mem := words(size)
		for _, length := range []int{0, 1, 2, 3, 4, 5, 31, 255, 256, 511, 512} {
			records := []string{text(length, 5), text(7, 6), text(length, 7)}
			for _, count := range counts(length) {
				k := min(count, length)
				for _, addr := range addresses(size, k) {
					for i, bad := range near(size, addr, k) {
						u := busy(records, i%2*2, 1, count, addr, 1)
						if x, _, _ := checkTick(t, u, mem, bad); x.Error {
							failed++
						} else {
							stored++
						}
					}
				}
			}
		}
	}
	if stored < 5000 || failed < 5000 {
		t.Errorf("%d records are stored, %d are not", stored, failed)
	}
}

func TestReadByHand(t *testing.T) {
	u := api.Tape{Records: []string{"abc", "", "\x00\xff\x80\xc3"}}
	at := func(pos, count, addr int) api.Tape {
		return busy(u.Records, pos, 1, count, addr, 1)
	}
	after := func(pos, count, addr, status int) api.Tape {
		x := idle(u.Records, pos, count, addr)
		x.Command, x.Mark, x.End, x.Error = 1, status&256 != 0, status&512 != 0, status&32768 != 0
		return x
	}
	for _, c := range []struct {
		u       api.Tape
		bad     []int
		want    api.Tape
		at      int
		bytes   string
		wantBad []int
	}{
		// Records shorter than, as long as and longer than Count.
		{at(0, 5, 10), nil, after(1, 2, 10, 0), 8, "..abc...", nil},
		{at(0, 3, 10), nil, after(1, 0, 10, 0), 8, "..abc...", nil},
		{at(0, 2, 10), nil, after(1, 0, 10, 32768), 8, "..ab....", nil},
		{at(0, 0, 10), nil, after(1, 0, 10, 32768), 8, "........", nil},
		{at(2, 65535, 11), nil, after(3, 65531, 11, 0), 8, "...\x00\xff\x80\xc3.", nil},
		// Empty records.
		{at(1, 5, 10), []int{8, 10, 12}, after(2, 5, 10, 256), 8, "........", []int{8, 10, 12}},
		{at(1, 0, 11), []int{8, 10, 12}, after(2, 0, 11, 256), 8, "........", []int{8, 10, 12}},
		{at(1, 5, 256), nil, after(2, 5, 256, 256), 248, "........", nil},
		{at(1, 5, 257), nil, after(2, 5, 257, 256+32768), 248, "........", nil},
		// The end of the tape.
		{at(3, 5, 10), []int{8, 10, 12}, after(3, 5, 10, 512+32768), 8, "........", []int{8, 10, 12}},
		// Parity.
		{at(0, 5, 10), []int{6, 8, 10, 12, 14}, after(1, 2, 10, 0), 8, "..abc...", []int{6, 8, 14}},
		{at(0, 5, 11), []int{6, 8, 10, 12, 14}, after(1, 2, 11, 0), 8, "...abc..", []int{6, 8, 14}},
		{at(0, 2, 11), []int{6, 8, 10, 12, 14}, after(1, 0, 11, 32768), 8, "...ab...", []int{6, 8, 14}},
		{at(0, 2, 12), []int{6, 8, 10, 12, 14}, after(1, 0, 12, 32768), 8, "....ab..", []int{6, 8, 10, 14}},
		{at(0, 1, 12), []int{12}, after(1, 0, 12, 32768), 8, "....a...", nil},
		{at(0, 1, 13), []int{12, 14}, after(1, 0, 13, 32768), 8, ".....a..", []int{14}},
		{at(0, 0, 13), []int{12, 14}, after(1, 0, 13, 32768), 8, "........", []int{12, 14}},
		// The end of memory.
		{at(0, 5, 253), []int{250, 252, 254}, after(1, 2, 253, 0), 248, ".....abc", []int{250}},
		{at(0, 5, 254), []int{250, 252, 254}, after(1, 5, 254, 32768), 248, "........", []int{250, 252, 254}},
		{at(0, 2, 254), []int{250, 252, 254}, after(1, 0, 254, 32768), 248, "......ab", []int{250, 252}},
		{at(0, 1, 255), []int{250, 252, 254}, after(1, 0, 255, 32768), 248, ".......a", []int{250, 252}},
		{at(0, 1, 256), []int{250, 252, 254}, after(1, 1, 256, 32768), 248, "........", []int{250, 252, 254}},
		{at(0, 0, 256), []int{250, 252, 254}, after(1, 0, 256, 32768), 248, "........", []int{250, 252, 254}},
		{at(2, 9, 65535), []int{0, 254}, after(3, 9, 65535, 32768), 248, "........", []int{0, 254}},
	} {
		mem := slices.Repeat([]int{'.' + 256*'.'}, 128)
		x, y, z := tape.Tick(c.u, mem, c.bad)
		if !same(x, c.want) || !slices.Equal(z, c.wantBad) {
			t.Errorf("%s: %s, bad addresses %v, want %s, %v", show(c.u), show(x), z, show(c.want), c.wantBad)
		}
		if s, _ := memory.Bytes(y, c.at, 8); s != c.bytes {
			t.Errorf("%s: %q, want %q", show(c.u), s, c.bytes)
		}
	}
}

func TestReadStoresEveryByte(t *testing.T) {
	// Records of all bytes, at even and odd addresses; the bytes around them stay.
	for b := range 256 {
		r := string([]byte{byte(b), byte(255 - b), byte(b)})
		for _, addr := range []int{20, 21} {
			_, mem, _ := tape.Tick(busy([]string{r}, 0, 1, 9, addr, 1), words(256), nil)
			got, _ := memory.Bytes(mem, 0, 256)
			old, _ := memory.Bytes(words(256), 0, 256)
			if got != old[:addr]+r+old[addr+3:] {
				t.Fatalf("the byte %d at %d: %q", b, addr, got)
			}
		}
	}
}

func TestReadAtTheEndOfTheLargestMemory(t *testing.T) {
	mem := words(32768)
	for _, n := range []int{1, 2, 511, 512} {
		for addr := 32768 - n - 2; addr <= 32768; addr++ {
			x, _, _ := checkTick(t, busy([]string{text(n, 1)}, 0, 1, 600, addr, 1), mem, []int{0, 32764, 32766})
			if x.Error != (addr+n > 32768) {
				t.Errorf("%d bytes at %d: %s", n, addr, show(x))
			}
		}
	}
}

func TestWriteAtTheEndOfTheLargestMemory(t *testing.T) {
	mem := words(32768)
	for _, n := range []int{1, 2, 511, 512} {
		for addr := 32768 - n - 2; addr <= 32768; addr++ {
			x, _, _ := checkTick(t, busy(reel(1, 2), 1, 2, n, addr, 1), mem, nil)
			if x.Error != (addr+n > 32768) {
				t.Errorf("%d bytes at %d: %s", n, addr, show(x))
			}
		}
	}
}

// heads returns tapes, and positions of the head at which a record is written.
func heads() []api.Tape {
	full := fullReel()
	return []api.Tape{{}, {Records: reel(2, 0, 1)}, {Records: reel(2, 0, 1), Pos: 1}, {Records: reel(2, 0, 1), Pos: 3}, {Records: full[:63], Pos: 63}, {Records: full}, {Records: full, Pos: 62}, {Records: full, Pos: 63}, {Records: full, Pos: 64}}
}

func TestWriteOfRecords(t *testing.T) {
	appended, failed := 0, 0
	for _, size := range []int{256, 512, 1024} {
		mem := words(size)
		for _, count := range []int{0, 1, 2, 3, 4, 5, 255, 256, 257, 510, 511, 512, 513, 514, 1024, 65535} {
			for _, addr := range addresses(size, count) {
				for i, bad := range near(size, addr, count) {
					for _, h := range []api.Tape{heads()[i%len(heads())], {Records: reel(2, 0, 1), Pos: 1}} {
						if x, _, _ := checkTick(t, busy(h.Records, h.Pos, 2, count, addr, 1), mem, bad); x.Error {
							failed++
						} else {
							appended++
						}
					}
				}
			}
		}
	}
	if appended < 1000 || failed < 1000 {
		t.Errorf("%d records are appended, %d are not", appended, failed)
	}
}

func TestWriteByHand(t *testing.T) {
	old := []string{"ab", "", "c"}
	at := func(pos, count, addr int) api.Tape {
		return busy(old, pos, 2, count, addr, 1)
	}
	for _, c := range []struct {
		u       api.Tape
		bad     []int
		pos     int
		records []string
	}{
		{at(0, 3, 10), nil, 1, []string{"klm"}},
		{at(1, 3, 11), nil, 2, []string{"ab", "lmn"}},
		{at(2, 1, 0), nil, 3, []string{"ab", "", "a"}},
		{at(3, 4, 22), nil, 4, []string{"ab", "", "c", "wxyz"}},
		{at(1, 0, 10), nil, 1, old},
		{at(1, 513, 0), nil, 1, old},
		{at(1, 65535, 1), nil, 1, old},
		{at(0, 2, 1022), nil, 1, []string{"yz"}},
		{at(0, 3, 1022), nil, 0, old},
		{at(0, 1, 1023), nil, 1, []string{"z"}},
		{at(0, 1, 1024), nil, 0, old},
		{at(0, 1, 65535), nil, 0, old},
		// Bad words within the bytes, where they begin and end, and beside them.
		{at(1, 5, 10), []int{8, 16}, 2, []string{"ab", "klmno"}},
		{at(1, 5, 10), []int{10}, 1, old},
		{at(1, 5, 10), []int{12}, 1, old},
		{at(1, 5, 10), []int{14}, 1, old},
		{at(1, 5, 11), []int{8, 16}, 2, []string{"ab", "lmnop"}},
		{at(1, 5, 11), []int{10}, 1, old},
		{at(1, 5, 11), []int{14}, 1, old},
		{at(1, 6, 11), []int{16}, 1, old},
		{at(1, 1, 11), []int{8, 12}, 2, []string{"ab", "l"}},
		{at(1, 1, 11), []int{8, 10, 12}, 1, old},
		{at(1, 1, 10), []int{8, 12}, 2, []string{"ab", "k"}},
		{at(1, 1, 10), []int{10}, 1, old},
	} {
		// The bytes of the memory are the letters from a to z, over and over; its last two are y and z.
		mem, _ := memory.New(1024)
		for i := range mem {
			mem[i] = 'a' + 2*i%26 + 256*('a'+(2*i+1)%26)
		}
		mem[511] = 'y' + 256*'z'
		before := slices.Clone(mem)
		x, y, z := tape.Tick(c.u, mem, c.bad)
		want := idle(c.records, c.pos, c.u.Count, c.u.Addr)
		want.Command, want.Error = 2, c.pos == c.u.Pos
		if !same(x, want) || !slices.Equal(y, before) || !slices.Equal(z, c.bad) {
			t.Errorf("%s, bad addresses %v: %s %q, want %s %q", show(c.u), c.bad, show(x), x.Records, show(want), want.Records)
		}
	}
}

func TestWriteOfTheLongestRecord(t *testing.T) {
	mem := words(2048)
	for count := 500; count <= 530; count++ {
		for _, addr := range []int{0, 1, 1000, 2048 - count, 2049 - count} {
			x, _, _ := checkTick(t, busy(reel(1, 2), 1, 2, count, addr, 1), mem, nil)
			content, _ := memory.Bytes(mem, addr, count)
			if ok := count <= 512 && addr+count <= 2048; ok == x.Error || ok && (len(x.Records) != 2 || x.Records[1] != content) {
				t.Errorf("%d bytes at %d: %s", count, addr, show(x))
			}
		}
	}
}

func TestAppendingToAFullTape(t *testing.T) {
	mem := words(1024)
	full := fullReel()
	for pos := range 65 {
		for _, command := range []int{2, 6} {
			for _, f := range allFlags() {
				u := with(busy(full, pos, command, 9, 11, 1), f)
				x, _, _ := checkTick(t, u, mem, nil)
				if pos < 64 {
					if len(x.Records) != pos+1 || x.Pos != pos+1 || x.Error != f.wrong || x.End != f.end {
						t.Errorf("command %d at %d: %s", command, pos, show(x))
					}
				} else if !x.Error || !x.End || x.Pos != 64 || !slices.Equal(x.Records, full) {
					t.Errorf("command %d of a full tape: %s", command, show(x))
				}
			}
		}
	}
	// A record that cannot be written says nothing of the end of the tape.
	for _, u := range []api.Tape{busy(full, 64, 2, 0, 0, 1), busy(full, 64, 2, 513, 0, 1), busy(full, 64, 2, 2, 1023, 1), busy(full, 64, 2, 2, 8, 1)} {
		x, _, _ := checkTick(t, u, mem, []int{8})
		if !x.Error || x.End {
			t.Errorf("%s: %s", show(u), show(x))
		}
	}
}

func TestATapeIsFilled(t *testing.T) {
	u, mem := idle(nil, 0, 3, 4), words(256)
	content, _ := memory.Bytes(mem, 4, 3)
	var want []string
	for i := range 70 {
		command, r := 2, content
		if i%3 == 2 {
			command, r = 6, ""
		}
		u, _, _ = ticks(began(t, u, 0, command), mem, nil, 16)
		if i < 64 {
			want = append(want, r)
		}
		if !slices.Equal(u.Records, want) || u.Pos != len(want) || u.Error != (i >= 64) || u.End != (i >= 64) {
			t.Fatalf("record %d: %s", i, show(u))
		}
	}
}

// ended returns the unit that is ready after a command, with the flags of a status.
func ended(u api.Tape, pos, status int) api.Tape {
	u.Pos, u.Left, u.Ready = pos, 0, true
	u.Mark, u.End, u.Error = status&256 != 0, status&512 != 0, status&32768 != 0
	return u
}

func TestSpaceByHand(t *testing.T) {
	l := []string{"", "ab", "", "", "c"}
	for _, c := range []struct{ command, pos, want, status int }{
		{3, 0, 1, 256}, {3, 1, 2, 0}, {3, 2, 3, 256}, {3, 3, 4, 256}, {3, 4, 5, 0}, {3, 5, 5, 512 + 32768},
		{4, 5, 4, 0}, {4, 4, 3, 256}, {4, 3, 2, 256}, {4, 2, 1, 0}, {4, 1, 0, 256}, {4, 0, 0, 512},
		{5, 0, 0, 0}, {5, 1, 0, 0}, {5, 4, 0, 0}, {5, 5, 0, 0},
		{0, 0, 0, 0}, {0, 3, 3, 0}, {0, 5, 5, 0},
	} {
		u := busy(l, c.pos, c.command, 7, 9, 1)
		x, y, z := tape.Tick(u, words(256), []int{8, 10})
		if !same(x, ended(u, c.want, c.status)) || !slices.Equal(y, words(256)) || !slices.Equal(z, []int{8, 10}) {
			t.Errorf("%s: %s", show(u), show(x))
		}
	}
	for _, c := range []struct {
		pos     int
		records []string
	}{{0, []string{""}}, {1, []string{"", ""}}, {2, []string{"", "ab", ""}}, {4, []string{"", "ab", "", "", ""}}, {5, []string{"", "ab", "", "", "c", ""}}} {
		u := busy(l, c.pos, 6, 7, 9, 1)
		want := ended(u, c.pos+1, 0)
		want.Records = c.records
		if x, y, z := tape.Tick(u, words(256), []int{8, 10}); !same(x, want) || !slices.Equal(y, words(256)) || !slices.Equal(z, []int{8, 10}) {
			t.Errorf("write mark at %d: %s", c.pos, show(x))
		}
	}
	// An empty tape.
	for command, status := range []int{0, 512 + 32768, 32768, 512 + 32768, 512, 0} {
		u := busy(nil, 0, command, 0, 0, 1)
		if x, _, _ := tape.Tick(u, words(256), nil); !same(x, ended(u, 0, status)) {
			t.Errorf("command %d of an empty tape: %s", command, show(x))
		}
	}
}

func TestFlagsStay(t *testing.T) {
	// A valid unit may have flags while a command is in progress; the command sets some of them, and clears none.
	mem := words(256)
	for _, p := range []api.Tape{{}, {Records: []string{"ab", "", "c"}}, {Records: []string{"ab", "", "c"}, Pos: 1}, {Records: []string{"ab", "", "c"}, Pos: 2}, {Records: []string{"ab", "", "c"}, Pos: 3}, {Records: fullReel(), Pos: 64}} {
		for command := range 7 {
			for _, count := range []int{0, 1, 2, 9, 600} {
				for _, addr := range []int{0, 5, 254, 255, 256, 300} {
					for _, bad := range [][]int{nil, {0, 4, 6, 254}} {
						none, _, _ := tape.Tick(busy(p.Records, p.Pos, command, count, addr, 1), mem, bad)
						for _, f := range allFlags() {
							x, _, _ := checkTick(t, with(busy(p.Records, p.Pos, command, count, addr, 1), f), mem, bad)
							want := none
							want.Enable, want.Error, want.Mark, want.End = f.enable, none.Error || f.wrong, none.Mark || f.mark, none.End || f.end
							if !same(x, want) {
								t.Fatalf("command %d: %s, want %s", command, show(x), show(want))
							}
						}
					}
				}
			}
		}
	}
}
