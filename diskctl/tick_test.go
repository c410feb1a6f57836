package diskctl_test

import (
	"slices"
	"strconv"
	"strings"
	"testing"

	"emulator/api"
	"emulator/diskctl"
	"emulator/drive"
	"emulator/memory"
)

// P16.4: Tick.

// model is a controller with its drive and a memory, all of whose contents are single bytes.
type model struct {
	k       api.Disk
	sectors [][]byte
	bytes   []byte
	// spoilt has the addresses of both bytes of each word with wrong parity, and badSectors the numbers of the bad sectors.
	spoilt, badSectors map[int]bool
}

// modelOf returns the model of a valid controller with a memory.
func modelOf(k api.Disk, mem, bad []int) *model {
	m := &model{k: k, spoilt: map[int]bool{}, badSectors: map[int]bool{}}
	for _, s := range k.Drive.Sectors {
		m.sectors = append(m.sectors, []byte(s))
	}
	for _, n := range k.Drive.Bad {
		m.badSectors[n] = true
	}
	for _, w := range mem {
		m.bytes = append(m.bytes, byte(w%256), byte(w/256))
	}
	for _, addr := range bad {
		m.spoilt[addr], m.spoilt[addr+1] = true, true
	}
	return m
}

// parts returns the controller with its memory, as lists.
func (m *model) parts() (k api.Disk, mem, bad []int) {
	k = m.k
	k.Drive = api.Drive{}
	for i, s := range m.sectors {
		k.Drive.Sectors = append(k.Drive.Sectors, string(s))
		if m.badSectors[i] {
			k.Drive.Bad = append(k.Drive.Bad, i)
		}
	}
	for addr := 0; addr < len(m.bytes); addr += 2 {
		mem = append(mem, int(m.bytes[addr])+256*int(m.bytes[addr+1]))
		if m.spoilt[addr] {
			bad = append(bad, addr)
		}
	}
	return k, mem, bad
}

// fails reports whether the sector of n bytes cannot be transferred.
func (m *model) fails(n int) bool {
	if m.k.Addr+n > len(m.bytes) || m.k.Start >= len(m.sectors) || m.badSectors[m.k.Start] {
		return true
	}
	for i := range n {
		if m.k.Command == 1 {
			continue
		}
		if m.spoilt[m.k.Addr+i] || m.k.Command == 3 && m.bytes[m.k.Addr+i] != m.sectors[m.k.Start][i] {
			return true
		}
	}
	return false
}

// move transfers a sector of n bytes.
func (m *model) move(n int) {
	if m.k.Command == 2 {
		m.sectors[m.k.Start] = make([]byte, 128)
	}
	for i := range n {
		switch m.k.Command {
		case 1:
			m.bytes[m.k.Addr+i] = m.sectors[m.k.Start][i]
			delete(m.spoilt, m.k.Addr+i)
		case 2:
			m.sectors[m.k.Start][i] = m.bytes[m.k.Addr+i]
		}
	}
}

// tick lets a tick pass.
func (m *model) tick() {
	k := &m.k
	if k.Left > 1 {
		k.Left--
		return
	}
	if k.Left < 1 {
		return
	}
	n := 64
	if k.Words < 64 {
		n = k.Words
	}
	k.Left = 0
	if m.fails(2 * n) {
		k.Ready, k.Error = true, true
		return
	}
	m.move(2 * n)
	k.Words, k.Addr, k.Start = k.Words-n, k.Addr+2*n, k.Start+1
	if k.Words > 0 {
		k.Left = 8
	} else {
		k.Ready = true
	}
}

// describe returns what a tick works on.
func describe(k api.Disk, mem, bad []int) string {
	s := show(k) + " bad sectors"
	for _, n := range k.Drive.Bad {
		s += " " + strconv.Itoa(n)
	}
	s += ", " + strconv.Itoa(len(mem)) + " words, bad addresses"
	for _, n := range bad {
		s += " " + strconv.Itoa(n)
	}
	return s
}

// checkTick compares a tick with that of the model, and returns its results.
func checkTick(t *testing.T, k api.Disk, mem, bad []int) (api.Disk, []int, []int) {
	t.Helper()
	m := modelOf(k, mem, bad)
	m.tick()
	wantDisk, wantMem, wantBad := m.parts()
	x, y, z := diskctl.Tick(k, mem, bad)
	if !same(x, wantDisk) {
		t.Fatalf("Tick of %s: %s, want %s; sectors %v differ", describe(k, mem, bad), show(x), show(wantDisk), drive.Diff(x.Drive, wantDisk.Drive))
	}
	if !slices.Equal(y, wantMem) {
		t.Fatalf("Tick of %s: the memory is wrong", describe(k, mem, bad))
	}
	if !slices.Equal(z, wantBad) {
		t.Fatalf("Tick of %s: the bad addresses %v, want %v", describe(k, mem, bad), z, wantBad)
	}
	if !diskctl.Right(x) || !memory.Right(y, z) {
		t.Fatalf("Tick of %s: the result is not valid", describe(k, mem, bad))
	}
	return x, y, z
}

// runOut checks the ticks until a controller is ready, and returns how many there were.
func runOut(t *testing.T, k api.Disk, mem, bad []int) (api.Disk, []int, []int, int) {
	t.Helper()
	n := 0
	for !k.Ready {
		k, mem, bad = checkTick(t, k, mem, bad)
		n++
	}
	return k, mem, bad, n
}

// wordsLists has the numbers of words of which the issues speak.
var wordsLists = []int{1, 2, 63, 64, 65, 128, 200}

func TestTickWithoutATransfer(t *testing.T) {
	for _, k := range validDisks() {
		if k.Left != 0 {
			continue
		}
		for _, bad := range [][]int{nil, {0}, {2, 4, 254}} {
			mem := words(256)
			x, y, z := diskctl.Tick(k, mem, bad)
			if !same(x, k) || !slices.Equal(y, words(256)) || !slices.Equal(z, bad) {
				t.Fatalf("Tick of %s: %s, bad addresses %v", show(k), show(x), z)
			}
		}
	}
}

func TestTickBeforeTheLast(t *testing.T) {
	for _, k := range validDisks() {
		if k.Left < 2 {
			continue
		}
		for _, bad := range [][]int{nil, {0}, {2, 4, 254}} {
			x, y, z := diskctl.Tick(k, words(256), bad)
			want := k
			want.Left--
			if !same(x, want) || !slices.Equal(y, words(256)) || !slices.Equal(z, bad) {
				t.Fatalf("Tick of %s: %s, bad addresses %v", show(k), show(x), z)
			}
		}
	}
}

func TestTickOfAllDisks(t *testing.T) {
	for _, k := range validDisks() {
		for _, bad := range [][]int{nil, {0}, {2, 4, 254}} {
			checkTick(t, k, words(256), bad)
		}
	}
}

func TestSectors(t *testing.T) {
	// The last tick of a sector, for all commands: with sectors that are there, the last one, those beyond it and bad ones, and with addresses up to the end of memory and beyond it.
	mem := words(512)
	transferred, failed := 0, 0
	for command := 1; command <= 3; command++ {
		for _, n := range append(wordsLists, 3, 66, 127, 129, 65535) {
			for _, start := range []int{0, 1, 2, 3, 4, 5, 255, 256, 257, 32768, 65534, 65535} {
				for _, addr := range []int{0, 2, 64, 128, 254, 256, 380, 382, 384, 386, 388, 508, 510, 512, 514, 32766, 32768, 65406, 65408, 65410, 65532, 65534} {
					for _, bad := range [][]int{nil, {0}, {addr % 512}, {254, 256, 382, 384, 508, 510}} {
						k := busy(disks(4, 1), command, n, addr, start, 1)
						if x, _, _ := checkTick(t, k, mem, bad); x.Error {
							failed++
						} else {
							transferred++
						}
					}
				}
			}
		}
	}
	if transferred < 500 || failed < 500 {
		t.Errorf("%d sectors, %d errors", transferred, failed)
	}
}

func TestWholeTransfers(t *testing.T) {
	// Step by step, with memory that differs from the sectors and with memory that does not.
	for command := 1; command <= 3; command++ {
		for _, n := range wordsLists {
			for _, addr := range []int{0, 2, 100, 112, 114, 384, 510} {
				for _, bad := range [][]int{nil, {0}, {addr}, {2, 128, 250, 400, 508}} {
					for _, f := range allFlags {
						mem := words(512)
						same, e := memory.Store(mem, min(addr, 512-400), strings.Join(disks(8).Sectors[2:6], "")[:400])
						if e != api.OK {
							t.Fatalf("Store: error %d", e)
						}
						runOut(t, with(busy(disks(8, 7), command, n, addr, 2, 8), f), mem, bad)
						runOut(t, with(busy(disks(8, 3), command, n, addr, 2, 8), f), mem, bad)
						runOut(t, with(busy(disks(8, 7), command, n, min(addr, 112), 2, 8), f), same, bad)
					}
				}
			}
		}
	}
}

func TestReadByHand(t *testing.T) {
	d := disks(4)
	for _, n := range []int{1, 2, 63, 64} {
		k, mem, bad := began(t, diskctl.New(d), 0, 1, n, 100, 2), words(512), []int{0, 98, 100, 100 + 2*n}
		if n > 1 {
			bad = []int{98, 100, 98 + 2*n, 100 + 2*n}
		}
		k, mem, bad = ticks(k, mem, bad, 7)
		if !same(k, busy(d, 1, n, 100, 2, 1)) || !slices.Equal(mem, words(512)) {
			t.Fatalf("%d words: after 7 ticks %s", n, show(k))
		}
		k, mem, bad = diskctl.Tick(k, mem, bad)
		want := idle(d, 0, 100+2*n, 3)
		want.Command = 1
		if !same(k, want) {
			t.Fatalf("%d words: after 8 ticks %s", n, show(k))
		}
		for i, w := range mem {
			old := words(512)[i]
			if j := i - 50; j >= 0 && j < n {
				old = int(d.Sectors[2][2*j]) + 256*int(d.Sectors[2][2*j+1])
			}
			if w != old {
				t.Fatalf("%d words: the word at %d is %d, want %d", n, 2*i, w, old)
			}
		}
		left := []int{98, 100 + 2*n}
		if n == 1 {
			left = []int{0, 98, 102}
		}
		if !slices.Equal(bad, left) {
			t.Fatalf("%d words: the bad addresses %v, want %v", n, bad, left)
		}
	}
}

func TestReadMakesParityRight(t *testing.T) {
	// All words are bad before; those of the range are not afterwards.
	all := make([]int, 256)
	for i := range all {
		all[i] = 2 * i
	}
	for _, n := range wordsLists {
		for _, addr := range []int{0, 2, 50, 112} {
			_, _, bad := ticks(began(t, diskctl.New(disks(8)), 0, 1, n, addr, 0), words(512), all, 8*((n+63)/64))
			var want []int
			for _, a := range all {
				if a < addr || a >= addr+2*n {
					want = append(want, a)
				}
			}
			if !slices.Equal(bad, want) {
				t.Errorf("%d words at %d: the bad addresses %v", n, addr, bad)
			}
		}
	}
}

func TestWriteByHand(t *testing.T) {
	d := disks(4)
	mem := words(512)
	mem[50], mem[51] = 0x4142, 0x4344
	for _, n := range []int{1, 2, 63, 64} {
		k, m, bad := began(t, diskctl.New(d), 0, 2, n, 100, 2), mem, []int{98, 100 + 2*n}
		k, m, bad = ticks(k, m, bad, 7)
		if !same(k, busy(d, 2, n, 100, 2, 1)) {
			t.Fatalf("%d words: after 7 ticks %s", n, show(k))
		}
		k, m, bad = diskctl.Tick(k, m, bad)
		want := idle(d, 0, 100+2*n, 3)
		want.Command = 2
		content, e := memory.Bytes(mem, 100, 2*n)
		if e != api.OK || content[:2] != "BA" || n > 1 && content[2:4] != "DC" {
			t.Fatalf("%d words: Bytes is %q, error %d", n, content, e)
		}
		want.Drive, e = drive.Write(d, 2, content+strings.Repeat("\x00", 128-2*n))
		if e != api.OK || !same(k, want) {
			t.Fatalf("%d words: after 8 ticks %s, sector %q", n, show(k), k.Drive.Sectors[2])
		}
		if !slices.Equal(m, mem) || !slices.Equal(bad, []int{98, 100 + 2*n}) {
			t.Fatalf("%d words: memory has changed, or the bad addresses %v", n, bad)
		}
	}
}

func TestWriteOfSeveralSectors(t *testing.T) {
	mem := words(512)
	for _, n := range wordsLists {
		k, m, bad := ticks(began(t, diskctl.New(disks(6, 5)), 0, 2, n, 12, 1), mem, []int{0, 10, 510}, 8*((n+63)/64))
		content, _ := memory.Bytes(mem, 12, 2*n)
		content += strings.Repeat("\x00", 127-(2*n+127)%128)
		want := disks(6, 5)
		for i := 0; i < len(content)/128; i++ {
			want.Sectors[1+i] = content[128*i : 128*i+128]
		}
		if !sameDrive(k.Drive, want) || k.Words != 0 || k.Addr != 12+2*n || k.Start != 1+len(content)/128 || !k.Ready || k.Error {
			t.Errorf("%d words: %s", n, show(k))
		}
		if !slices.Equal(m, mem) || !slices.Equal(bad, []int{0, 10, 510}) {
			t.Errorf("%d words: memory has changed, or the bad addresses %v", n, bad)
		}
	}
}

// changedBit returns a memory in which a bit of the byte at an address has been changed.
func changedBit(mem []int, addr, bit int) []int {
	l := slices.Clone(mem)
	l[addr/2] ^= 1 << (8*(addr%2) + bit)
	return l
}

func TestCheckByHand(t *testing.T) {
	d := disks(4)
	sectors := strings.Join(d.Sectors, "")
	for _, n := range wordsLists {
		mem, e := memory.Store(words(1024), 100, sectors[:2*n])
		if e != api.OK {
			t.Fatalf("Store: error %d", e)
		}
		last := 8 * ((n + 63) / 64)
		k, m, bad := ticks(began(t, diskctl.New(d), 0, 3, n, 100, 0), mem, []int{98, 100 + 2*n}, last)
		want := idle(d, 0, 100+2*n, (n+63)/64)
		want.Command = 3
		if !same(k, want) || !slices.Equal(m, mem) || !slices.Equal(bad, []int{98, 100 + 2*n}) {
			t.Errorf("%d words: %s, bad addresses %v", n, show(k), bad)
		}
		// Every byte of the range counts, and no byte beside it.
		for i := -4; i < 2*n+4; i++ {
			changed := changedBit(mem, 100+i, (i+8)%8)
			k, m, _ := ticks(began(t, diskctl.New(d), 0, 3, n, 100, 0), changed, nil, last)
			if inside := i >= 0 && i < 2*n; k.Error != inside {
				t.Fatalf("%d words, a difference in byte %d: %s", n, i, show(k))
			}
			if k.Error {
				sector := i / 128
				want := api.Disk{Drive: d, Ready: true, Error: true, Command: 3, Words: n - 64*sector, Addr: 100 + 128*sector, Start: sector}
				if !same(k, want) {
					t.Fatalf("%d words, a difference in byte %d: %s, want %s", n, i, show(k), show(want))
				}
			}
			if !slices.Equal(m, changed) {
				t.Fatalf("%d words, a difference in byte %d: memory has changed", n, i)
			}
		}
	}
}

func TestCheckLooksAtTheFirstWords(t *testing.T) {
	// What is behind the words that count, in the sector, does not matter.
	for _, n := range []int{1, 2, 63} {
		mem, _ := memory.Store(words(256), 64, text(2*n, 3))
		for i := range 128 {
			s := []byte(text(2*n, 3) + strings.Repeat("?", 128-2*n))
			s[i] ^= 0x40
			k, _, _ := ticks(began(t, diskctl.New(api.Drive{Sectors: []string{string(s)}}), 0, 3, n, 64, 0), mem, nil, 8)
			if k.Error != (i < 2*n) {
				t.Errorf("%d words, byte %d of the sector: %s", n, i, show(k))
			}
		}
	}
}

func TestParity(t *testing.T) {
	// Each single word of wrong parity, inside of the range and beside it.
	d := disks(2)
	for _, n := range []int{1, 2, 63, 64} {
		mem, _ := memory.Store(words(512), 128, d.Sectors[1])
		for addr := 0; addr < 512; addr += 2 {
			inside := addr >= 128 && addr < 128+2*n
			for command := 1; command <= 3; command++ {
				k, m, bad := ticks(began(t, diskctl.New(d), 0, command, n, 128, 1), mem, []int{addr}, 8)
				wantError := inside && command != 1
				if k.Error != wantError || !k.Ready || k.Left != 0 {
					t.Fatalf("command %d, %d words, %d is bad: %s", command, n, addr, show(k))
				}
				if wantError && !same(k, api.Disk{Drive: d, Ready: true, Error: true, Command: command, Words: n, Addr: 128, Start: 1}) {
					t.Fatalf("command %d, %d words, %d is bad: %s", command, n, addr, show(k))
				}
				wantBad := []int{addr}
				if inside && command == 1 {
					wantBad = nil
				}
				if !slices.Equal(bad, wantBad) || !slices.Equal(m, mem) {
					t.Fatalf("command %d, %d words, %d is bad: afterwards %v", command, n, addr, bad)
				}
			}
		}
	}
}

func TestErrorsTransferNothing(t *testing.T) {
	d := disks(256, 0, 7, 254)
	for _, size := range []int{256, 512, 32768} {
		mem := words(size)
		for command := 1; command <= 3; command++ {
			for _, c := range []struct{ words, addr, start int }{
				// No such sector, or a bad one.
				{1, 0, 0}, {64, 0, 7}, {65, 0, 254}, {1, 0, 256}, {64, 2, 257}, {200, 0, 32768}, {1, 0, 65535}, {65535, 0, 65535},
				// The range is not in memory, or not all of it is.
				{1, size, 1}, {2, size - 2, 1}, {64, size - 126, 1}, {64, size, 1}, {65, size - 126, 1}, {65535, size - 2, 1}, {1, 32768, 1}, {1, 65534, 1}, {2, 65534, 1}, {64, 65534, 1}, {64, 65408, 1}, {64, 65410, 1}, {65535, 65534, 1}, {65535, 65534, 65535},
			} {
				for _, f := range allFlags {
					for _, bad := range [][]int{nil, {0, size - 2}} {
						k, m, b := ticks(with(busy(d, command, c.words, c.addr, c.start, 8), f), mem, bad, 7)
						if k.Ready || k.Left != 1 || k.Error != f.wrong {
							t.Fatalf("after 7 ticks: %s", show(k))
						}
						k, m, b = diskctl.Tick(k, m, b)
						want := api.Disk{Drive: d, Enable: f.enable, Ready: true, Error: true, Command: command, Words: c.words, Addr: c.addr, Start: c.start}
						if !same(k, want) || !slices.Equal(m, mem) || !slices.Equal(b, bad) {
							t.Fatalf("after 8 ticks: %s, want %s, bad addresses %v", show(k), show(want), b)
						}
						// Nothing more happens then.
						x, y, z := diskctl.Tick(k, m, b)
						if !same(x, want) || !slices.Equal(y, mem) || !slices.Equal(z, bad) {
							t.Fatalf("after 9 ticks: %s", show(x))
						}
					}
				}
			}
		}
	}
}

func TestEndsOfMemory(t *testing.T) {
	// The last words of memory can be transferred, from 256 bytes to the largest memory.
	for _, size := range []int{256, 320, 4096, 32704, 32768} {
		for command := 1; command <= 3; command++ {
			for _, n := range []int{1, 2, 63, 64} {
				mem, e := memory.Store(words(size), size-2*n, disks(2).Sectors[1][:2*n])
				if e != api.OK {
					t.Fatalf("Store: error %d", e)
				}
				for _, extra := range []int{0, 2} {
					k, _, _, _ := runOut(t, busy(disks(2), command, n, size-2*n+extra, 1, 8), mem, nil)
					if k.Error != (extra > 0) {
						t.Errorf("command %d, %d words at %d of %d: %s", command, n, size-2*n+extra, size, show(k))
					}
				}
			}
		}
	}
}

func TestErrorInALaterSector(t *testing.T) {
	// What was transferred before the error remains. The transfers begin with sector 1 and with the word at 0.
	for _, c := range []struct {
		d                  api.Drive
		bad                []int
		command, words     int
		wrong              bool
		left, start, ticks int
	}{
		{disks(5), nil, 1, 200, false, 0, 5, 32},
		{disks(4), nil, 1, 200, true, 8, 4, 32},
		{disks(3), nil, 1, 200, true, 72, 3, 24},
		{disks(5, 3), nil, 1, 200, true, 72, 3, 24},
		{disks(5, 2), nil, 2, 200, true, 136, 2, 16},
		{disks(5, 1), nil, 2, 200, true, 200, 1, 8},
		{disks(5), []int{10, 130, 254}, 2, 65, true, 65, 1, 8},
		{disks(5), []int{130}, 2, 66, true, 2, 2, 16},
		{disks(5), []int{132}, 2, 66, false, 0, 3, 16},
		{disks(5), nil, 1, 257, true, 1, 5, 40},
		{disks(6), nil, 1, 257, true, 1, 5, 40},
		{disks(6), nil, 2, 256, false, 0, 5, 32},
	} {
		mem := words(512)
		k, m, _, n := runOut(t, began(t, diskctl.New(c.d), 0, c.command, c.words, 0, 1), mem, c.bad)
		if k.Error != c.wrong || k.Words != c.left || k.Addr != 2*(c.words-c.left) || k.Start != c.start || n != c.ticks {
			t.Errorf("%v: %s after %d ticks", c.bad, show(k), n)
		}
		moved := 2 * (c.words - c.left)
		got, _ := memory.Bytes(m, 0, moved)
		if want := strings.Join(k.Drive.Sectors[1:], "")[:moved]; got != want {
			t.Errorf("%v: %s: memory and sectors differ", c.bad, show(k))
		}
	}
}

func TestByteOrder(t *testing.T) {
	// The less significant byte of a word comes first.
	d := api.Drive{Sectors: []string{"\x01\x02\xFF\x00" + strings.Repeat("\x00", 123) + "\x80"}}
	k, mem, _ := ticks(began(t, diskctl.New(d), 0, 1, 64, 0, 0), words(256), nil, 8)
	if mem[0] != 0x0201 || mem[1] != 0x00FF || mem[2] != 0 || mem[63] != 0x8000 || k.Error {
		t.Errorf("words %#x", mem[:64])
	}
	mem[0], mem[63] = 0x1234, 0x00AB
	k, _, _ = ticks(began(t, k, 0, 2, 64, 0, 0), mem, nil, 8)
	if want := "\x34\x12\xFF\x00" + strings.Repeat("\x00", 122) + "\xAB\x00"; k.Drive.Sectors[0] != want {
		t.Errorf("sector %q", k.Drive.Sectors[0])
	}
}

func TestAllOfTheDriveAndMemory(t *testing.T) {
	// 256 sectors fill the largest memory; the next one is neither on the drive nor in memory.
	d := disks(256)
	mem, _ := memory.New(32768)
	bad := upTo(0, 0)
	for addr := 2; addr < 32768; addr += 94 {
		bad = append(bad, addr)
	}
	k, mem, bad := ticks(began(t, diskctl.New(d), 0, 1, 16384, 0, 0), mem, bad, 8*256-1)
	if k.Left != 1 || k.Words != 64 || k.Addr != 32640 || k.Start != 255 {
		t.Fatalf("before the last tick: %s", show(k))
	}
	k, mem, bad = diskctl.Tick(k, mem, bad)
	want := idle(d, 0, 32768, 256)
	want.Command = 1
	if !same(k, want) || len(bad) != 0 {
		t.Fatalf("after the last tick: %s, bad addresses %v", show(k), bad)
	}
	if got, _ := memory.Bytes(mem, 0, 32768); got != strings.Join(d.Sectors, "") {
		t.Fatal("the memory is not the drive")
	}
	for command := 2; command <= 3; command++ {
		x, y, _ := ticks(began(t, k, 0, command, 65535, 0, 0), mem, nil, 8*257)
		want := api.Disk{Drive: d, Ready: true, Error: true, Command: command, Words: 65535 - 16384, Addr: 32768, Start: 256}
		if !same(x, want) || !slices.Equal(y, mem) {
			t.Fatalf("command %d: %s", command, show(x))
		}
	}
}

func TestRegistersAreModulo65536(t *testing.T) {
	// No valid drive has a sector 65535, and no valid memory the word at 65534: only larger ones lead beyond the words.
	d := api.Drive{Sectors: slices.Repeat([]string{text(128, 3)}, 65537)}
	k, mem, _ := diskctl.Tick(busy(d, 1, 2, 0, 65535, 1), words(256), nil)
	if k.Start != 0 || k.Addr != 4 || k.Error || mem[1] == words(256)[1] {
		t.Errorf("after sector 65535: %s", show(k))
	}
	k, _, _ = diskctl.Tick(busy(disks(2), 1, 2, 65532, 1, 1), words(65536), nil)
	if k.Addr != 0 || k.Start != 2 || k.Error {
		t.Errorf("after the word at 65534: %s", show(k))
	}
	k, _, _ = diskctl.Tick(busy(disks(2), 2, 64, 65534, 1, 1), words(1<<17), nil)
	if k.Addr != 126 || k.Start != 2 || k.Error {
		t.Errorf("after the word at 65534: %s", show(k))
	}
	// In a valid memory the range does not go on at 0.
	mem = words(256)
	k, after, _ := diskctl.Tick(busy(disks(2), 1, 64, 65534, 1, 1), mem, nil)
	if !k.Error || k.Addr != 65534 || !slices.Equal(after, words(256)) {
		t.Errorf("at 65534: %s", show(k))
	}
}
