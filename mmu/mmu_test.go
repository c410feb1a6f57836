package mmu_test

import (
	"math"
	"testing"

	"emulator/api"
	"emulator/mmu"
)

// farInts has numbers that are neither words nor offsets, bases or numbers of blocks.
var farInts = []int{-1, -2, -3, -16, -18, -64, -80, -128, -255, -256, -1024, -4096, -8192, -32768, -65535, -65536, -65537, -1 << 31, -1 << 32, -1<<32 + 16, -1<<32 + 1024, -1 << 62, math.MinInt, math.MinInt + 1, math.MinInt + 2, math.MinInt + 16, math.MinInt + 18, math.MinInt + 1024, math.MinInt + 4096,
	65536, 65538, 65552, 65554, 65552 + 4096, 131072, 1<<31 - 1, 1 << 31, 1<<31 + 16, 1 << 32, 1<<32 + 1, 1<<32 + 2, 1<<32 + 16, 1<<32 + 18, 1<<32 + 128, 1 << 40, 1 << 62, math.MaxInt - 4096, math.MaxInt - 1024, math.MaxInt - 1, math.MaxInt}

// aroundWords has integers that are taken modulo 65536: words with single bits and with many, and others that are no words.
var aroundWords = []int{0, 1, 2, 3, 4, 5, 6, 7, 8, 15, 16, 127, 128, 129, 200, 254, 255, 256, 257, 384, 511, 512, 513, 640, 767, 768, 769, 896, 1023, 1024, 2048, 4095, 4096, 4097, 8191, 8192, 0x5555, 0x7fff, 0x8000, 0x8001, 0x8300, 0xaaaa, 0xf000, 0xfc00, 0xfffe, 0xffff,
	65536, 65537, 65536 + 640, 65536 + 4095, 131071, 131072, 1<<32 + 0x8183, 1<<40 + 7, -1, -2, -3, -7, -8, -128, -256, -257, -512, -4096, -4097, -32768, -65535, -65536, -65537, math.MaxInt, math.MaxInt - 1, math.MinInt, math.MinInt + 1, math.MinInt + 0x1ff}

// modulo returns an integer modulo a positive one.
func modulo(n, m int) int {
	return (n%m + m) % m
}

// bit returns a bit of an integer.
func bit(n, i int) int {
	return modulo(n, 65536) / power(i) % 2
}

// power returns a power of two.
func power(n int) int {
	p := 1
	for range n {
		p *= 2
	}
	return p
}

// sample returns a valid unit that is on, whose pages all differ and have all kinds of access.
func sample() api.Mmu {
	u := api.Mmu{On: true, Status: 2, Addr: 0xabcd}
	lengths := []int{128, 1, 127, 0, 64, 2, 100, 128, 3, 128, 126, 77, 128, 1, 5, 128}
	accesses := []int{2, 1, 2, 2, 0, 1, 2, 1, 1, 2, 0, 2, 1, 2, 1, 2}
	for i := range 16 {
		u.Pages[i/8][i%8] = api.Page{Base: (i*731 + 4000) % 4096, Length: lengths[i], Access: accesses[i], Written: i%3 == 1}
	}
	return u
}

// samples has valid units.
func samples() []api.Mmu {
	on := sample()
	off, written, last := on, on, api.Mmu{On: true, Status: 3, Addr: 65535}
	off.On, off.Status, off.Addr = false, 0, 1
	written.Status, written.Addr = 1, 0
	for i := range 16 {
		written.Pages[i/8][i%8].Written = true
		last.Pages[i/8][i%8] = api.Page{Base: 4095, Length: 128, Access: 2, Written: i%2 == 0}
	}
	return []api.Mmu{{}, {On: true}, on, off, written, last}
}

// onePage returns a unit that is on and has one page that is not zero.
func onePage(mode, page int, p api.Page) api.Mmu {
	u := api.Mmu{On: true}
	u.Pages[mode][page] = p
	return u
}

// P9.1: Right.

func TestRightOfValidUnits(t *testing.T) {
	for i, u := range samples() {
		if !mmu.Right(u) {
			t.Errorf("Right of the unit %d is false", i)
		}
	}
}

// checkRight checks Right of units that a function makes from the samples and a number, which may be from 0 to a greatest one.
func checkRight(t *testing.T, name string, greatest int, with func(u api.Mmu, n int) api.Mmu) {
	t.Helper()
	numbers := append([]int{0, 1, 2, 3, 4, 5, 126, 127, 128, 129, 130, 255, 256, 257, 1023, 1024, 4094, 4095, 4096, 4097, 8191, 8192, 32767, 32768, 65534, 65535}, farInts...)
	for i, u := range samples() {
		for _, n := range append(numbers, greatest-1, greatest, greatest+1) {
			if got := mmu.Right(with(u, n)); got != (n >= 0 && n <= greatest) {
				t.Errorf("Right of the unit %d with the %s %d: %v", i, name, n, got)
			}
		}
	}
}

func TestRightLooksAtEveryPage(t *testing.T) {
	for mode := range 2 {
		for page := range 8 {
			checkRight(t, "Base", 4095, func(u api.Mmu, n int) api.Mmu {
				u.Pages[mode][page].Base = n
				return u
			})
			checkRight(t, "Length", 128, func(u api.Mmu, n int) api.Mmu {
				u.Pages[mode][page].Length = n
				return u
			})
			checkRight(t, "Access", 2, func(u api.Mmu, n int) api.Mmu {
				u.Pages[mode][page].Access = n
				return u
			})
		}
	}
}

func TestRightLooksAtStatusAndAddr(t *testing.T) {
	checkRight(t, "Status", 3, func(u api.Mmu, n int) api.Mmu {
		u.Status = n
		return u
	})
	checkRight(t, "Addr", 65535, func(u api.Mmu, n int) api.Mmu {
		u.Addr = n
		return u
	})
}

func TestRightTakesEachFieldAlone(t *testing.T) {
	// Two wrong fields must not make up for each other.
	u := sample()
	u.Pages[0][0].Base, u.Pages[1][7].Base = 4096, -1
	if mmu.Right(u) {
		t.Error("Right with a Base above and one below")
	}
	if mmu.Right(api.Mmu{Status: 4, Addr: -1}) || mmu.Right(api.Mmu{Status: -1, Addr: 65536}) {
		t.Error("Right with a wrong Status and a wrong Addr")
	}
}

// P9.2: Translate.

// wantTranslate returns what Translate of a valid unit returns.
func wantTranslate(u api.Mmu, mode, addr int, write bool) (int, api.Mmu, api.Trap) {
	mode, addr = modulo(mode, 2), modulo(addr, 65536)
	if !u.On {
		if addr < 57344 {
			return addr, u, api.TrNone
		}
		return addr + 196608, u, api.TrNone
	}
	page, offset := 0, addr
	for offset >= 8192 {
		page, offset = page+1, offset-8192
	}
	p, block := u.Pages[mode][page], offset/64
	kind := 0
	if write && p.Access != 2 {
		kind = 3
	}
	if block >= p.Length {
		kind = 2
	}
	if p.Access == 0 {
		kind = 1
	}
	if kind != 0 {
		u.Status, u.Addr = kind, addr
		return 0, u, api.TrMmu
	}
	if write {
		u.Pages[mode][page].Written = true
	}
	return (p.Base+block)%4096*64 + offset%64, u, api.TrNone
}

// checkTranslate compares Translate with the model.
func checkTranslate(t *testing.T, u api.Mmu, mode, addr int, write bool) {
	t.Helper()
	before := u
	p, v, trap := mmu.Translate(u, mode, addr, write)
	wantP, want, wantTrap := wantTranslate(before, mode, addr, write)
	if p != wantP || trap != wantTrap || v != want {
		t.Errorf("Translate(.., %d, %d, %v) = %d, status %d, addr %d, %d; want %d, status %d, addr %d, %d", mode, addr, write, p, v.Status, v.Addr, trap, wantP, want.Status, want.Addr, wantTrap)
	}
	if u != before || !mmu.Right(v) {
		t.Errorf("Translate(.., %d, %d, %v) has changed the unit or returns one that is not valid", mode, addr, write)
	}
}

func TestTranslateEveryAddress(t *testing.T) {
	for _, u := range samples() {
		for mode := range 2 {
			for addr := range 65536 {
				checkTranslate(t, u, mode, addr, addr%3 == 0)
			}
		}
	}
	for addr := range 65536 {
		checkTranslate(t, sample(), addr%2, addr, addr%3 != 0)
	}
}

func TestTranslateTakesAddressesModulo(t *testing.T) {
	for _, u := range samples() {
		for mode := range 2 {
			for _, write := range []bool{false, true} {
				for _, addr := range append(aroundWords, farInts...) {
					checkTranslate(t, u, mode, addr, write)
				}
				for addr := -70000; addr < 140000; addr += 997 {
					checkTranslate(t, u, mode, addr, write)
				}
			}
		}
	}
}

func TestTranslateTakesModesModulo(t *testing.T) {
	modes := append([]int{0, 1, 2, 3, 4, 5, 7, 8, 255, 256, 32767, 32768, 65535}, farInts...)
	for _, u := range samples() {
		for _, mode := range modes {
			for addr := 0; addr < 65536; addr += 8192 {
				checkTranslate(t, u, mode, addr, false)
				checkTranslate(t, u, mode, addr+191, true)
				checkTranslate(t, u, mode, addr+8191, false)
			}
		}
	}
}

func TestTranslateOff(t *testing.T) {
	for _, x := range []struct{ addr, phys int }{
		{0, 0}, {1, 1}, {8191, 8191}, {8192, 8192}, {0x8000, 0x8000}, {0xdffe, 0xdffe}, {0xdfff, 0xdfff}, {0xe000, 0x3e000}, {0xe001, 0x3e001}, {0xfffe, 0x3fffe}, {0xffff, 0x3ffff},
		{65536, 0}, {65537, 1}, {65536 + 0xdfff, 0xdfff}, {65536 + 0xe000, 0x3e000}, {-1, 0x3ffff}, {-2, 0x3fffe}, {-8192, 0x3e000}, {-8193, 0xdfff}, {-65536, 0}, {1<<40 + 5, 5}, {math.MinInt, 0}, {math.MaxInt, 0x3ffff},
	} {
		for mode := -1; mode < 3; mode++ {
			for _, write := range []bool{false, true} {
				// What the unit would do if it were on plays no role.
				for _, u := range []api.Mmu{{}, {Status: 3, Addr: 77}, samples()[3]} {
					if p, v, trap := mmu.Translate(u, mode, x.addr, write); p != x.phys || v != u || trap != api.TrNone {
						t.Errorf("Translate(off, %d, %d, %v) = %d, %d; want %d", mode, x.addr, write, p, trap, x.phys)
					}
				}
			}
		}
	}
}

func TestTranslateEveryLengthAndAccess(t *testing.T) {
	for length := 0; length <= 128; length++ {
		for access := 0; access <= 2; access++ {
			for _, at := range [][2]int{{0, 0}, {0, 7}, {1, 0}, {1, 7}, {1, 3}} {
				u := onePage(at[0], at[1], api.Page{Base: 4096 - 100, Length: length, Access: access, Written: length%2 == 0})
				first := at[1] * 8192
				for _, addr := range []int{first - 1, first, first + 1, first + 63, first + 64, first + 64*length - 65, first + 64*length - 64, first + 64*length - 1, first + 64*length, first + 64*length + 1, first + 64*length + 64, first + 8191, first + 8192} {
					checkTranslate(t, u, at[0], addr, false)
					checkTranslate(t, u, at[0], addr, true)
					checkTranslate(t, u, 1-at[0], addr, false)
				}
			}
		}
	}
}

func TestTranslateOfEveryBlock(t *testing.T) {
	u := onePage(1, 2, api.Page{Base: 17, Length: 128, Access: api.AccWrite})
	for block := range 128 {
		for _, in := range []int{0, 1, 31, 62, 63} {
			if p, v, trap := mmu.Translate(u, 1, 16384+64*block+in, false); p != 64*(17+block)+in || v != u || trap != api.TrNone {
				t.Errorf("the byte %d of the block %d: %d, %d", in, block, p, trap)
			}
		}
	}
}

func TestTranslateBeyondPhysBytes(t *testing.T) {
	for _, x := range []struct{ base, offset, phys int }{
		{4095, 0, 262080}, {4095, 63, 262143}, {4095, 64, 0}, {4095, 65, 1}, {4095, 127, 63}, {4095, 128, 64}, {4095, 8191, 8127}, {4094, 127, 262143}, {4094, 128, 0}, {3968, 8191, 262143}, {3969, 8127, 262143}, {3969, 8128, 0}, {3969, 8191, 63}, {3968, 0, 253952}, {2048, 8191, 139263},
	} {
		u := onePage(0, 5, api.Page{Base: x.base, Length: 128, Access: api.AccRead})
		if p, v, trap := mmu.Translate(u, 0, 40960+x.offset, false); p != x.phys || v != u || trap != api.TrNone {
			t.Errorf("the base %d and the offset %d: %d, %d; want %d", x.base, x.offset, p, trap, x.phys)
		}
	}
	for base := range 4096 {
		u := onePage(1, 0, api.Page{Base: base, Length: 128, Access: api.AccWrite})
		for _, addr := range []int{0, 1, 63, 64, 4096, 8128, 8191} {
			checkTranslate(t, u, 1, addr, base%2 == 0)
		}
	}
}

func TestWhichFaultComesFirst(t *testing.T) {
	for _, x := range []struct {
		length, access, offset int
		write                  bool
		fault                  int
	}{
		{0, 0, 0, false, 1}, {0, 0, 0, true, 1}, {128, 0, 0, false, 1}, {128, 0, 0, true, 1}, {1, 0, 64, true, 1}, {1, 0, 63, false, 1},
		{0, 1, 0, false, 2}, {0, 1, 0, true, 2}, {0, 2, 0, false, 2}, {0, 2, 0, true, 2}, {1, 1, 64, false, 2}, {1, 1, 64, true, 2}, {1, 2, 64, true, 2}, {127, 2, 8128, false, 2}, {127, 1, 8191, true, 2}, {127, 2, 8191, true, 2},
		{1, 1, 0, true, 3}, {1, 1, 63, true, 3}, {128, 1, 8191, true, 3}, {127, 1, 8127, true, 3},
		{1, 1, 0, false, 0}, {1, 1, 63, false, 0}, {1, 2, 0, true, 0}, {1, 2, 63, true, 0}, {128, 2, 8191, true, 0}, {128, 1, 8191, false, 0}, {127, 2, 8127, true, 0}, {127, 2, 8127, false, 0},
	} {
		for _, old := range []api.Mmu{{}, {Status: 1, Addr: 9}, {Status: 3, Addr: 65535}} {
			u := onePage(1, 7, api.Page{Base: 3, Length: x.length, Access: x.access})
			u.Status, u.Addr = old.Status, old.Addr
			want, wantP, wantTrap := u, 192+x.offset, api.TrNone
			if x.fault != 0 {
				want.Status, want.Addr, wantP, wantTrap = x.fault, 57344+x.offset, 0, api.TrMmu
			} else if x.write {
				want.Pages[1][7].Written = true
			}
			if p, v, trap := mmu.Translate(u, 1, 57344+x.offset, x.write); p != wantP || v != want || trap != wantTrap {
				t.Errorf("%+v: %d, status %d, addr %d, %d", x, p, v.Status, v.Addr, trap)
			}
		}
	}
}

func TestFaultsKeepTheAddressAsAWord(t *testing.T) {
	for _, x := range []struct{ addr, word int }{{-1, 65535}, {-65536, 0}, {65536, 0}, {65539, 3}, {8193, 8193}, {1<<40 + 9, 9}, {math.MinInt + 6, 6}, {math.MaxInt, 65535}} {
		if p, v, trap := mmu.Translate(api.Mmu{On: true, Status: 3, Addr: 5}, 0, x.addr, false); p != 0 || v != (api.Mmu{On: true, Status: 1, Addr: x.word}) || trap != api.TrMmu {
			t.Errorf("Translate of %d: %d, status %d, addr %d, %d", x.addr, p, v.Status, v.Addr, trap)
		}
	}
}

func TestWritingMarksItsPageOnly(t *testing.T) {
	u := api.Mmu{On: true, Status: 1, Addr: 4}
	for i := range 16 {
		u.Pages[i/8][i%8] = api.Page{Base: 8 * i, Length: 128, Access: api.AccWrite}
	}
	for i := range 16 {
		want := u
		want.Pages[i/8][i%8].Written = true
		for _, offset := range []int{0, 1, 4095, 8191} {
			_, v, _ := mmu.Translate(u, i/8, i%8*8192+offset, true)
			if v != want {
				t.Errorf("writing page %d of mode %d: %+v", i%8, i/8, v)
			}
			// A second write and a read leave the mark where it is.
			for _, write := range []bool{false, true} {
				if _, again, _ := mmu.Translate(v, i/8, i%8*8192+offset, write); again != want {
					t.Errorf("using page %d of mode %d again: %+v", i%8, i/8, again)
				}
			}
		}
	}
}

// P9.3: Read.

// place is a register: the status, the fault address, or the base or descriptor of a page.
type place struct {
	name       string
	mode, page int
}

// places returns the registers by their offsets.
func places() map[int]place {
	l := map[int]place{0: {name: "status"}, 2: {name: "addr"}}
	for m := range 2 {
		for p := range 8 {
			l[16+32*m+4*p] = place{"base", m, p}
			l[18+32*m+4*p] = place{"descriptor", m, p}
		}
	}
	return l
}

// wantRead returns what Read of a valid unit returns for a register.
func wantRead(u api.Mmu, at place) int {
	p, n := u.Pages[at.mode][at.page], 0
	switch at.name {
	case "status":
		n = 2 * u.Status
		if u.On {
			n++
		}
	case "addr":
		n = u.Addr
	case "base":
		n = p.Base
	case "descriptor":
		n = p.Length + 256*p.Access
		if p.Written {
			n += 32768
		}
	}
	return n
}

// offsets has all offsets of registers and of their neighbourhood, and far ones.
func offsets() []int {
	var l []int
	for offset := -300; offset <= 1200; offset++ {
		l = append(l, offset)
	}
	return append(l, farInts...)
}

func TestReadOfEveryOffset(t *testing.T) {
	registers := places()
	if len(registers) != 34 {
		t.Fatal("the registers of the test are wrong")
	}
	for _, u := range samples() {
		before := u
		for _, offset := range offsets() {
			at, there := registers[offset]
			want := 0
			if there {
				want = wantRead(u, at)
			}
			if n, ok := mmu.Read(u, offset); n != want || ok != there {
				t.Errorf("Read at %d: %d, %v; want %d, %v", offset, n, ok, want, there)
			}
		}
		if u != before {
			t.Error("Read has changed the unit")
		}
	}
}

func TestReadByHand(t *testing.T) {
	u := sample()
	u.Pages[0][0] = api.Page{Base: 4095, Length: 128, Access: 2, Written: true}
	u.Pages[0][7] = api.Page{Base: 1, Length: 127, Access: 1}
	u.Pages[1][0] = api.Page{Base: 2, Length: 0, Access: 0, Written: true}
	u.Pages[1][7] = api.Page{Base: 256, Length: 1, Access: 2}
	for _, x := range []struct {
		offset, n int
		ok        bool
	}{
		{0, 5, true}, {2, 0xabcd, true}, {16, 4095, true}, {18, 33408, true}, {44, 1, true}, {46, 383, true}, {48, 2, true}, {50, 32768, true}, {76, 256, true}, {78, 513, true},
		{-2, 0, false}, {-1, 0, false}, {1, 0, false}, {3, 0, false}, {4, 0, false}, {6, 0, false}, {12, 0, false}, {14, 0, false}, {15, 0, false}, {17, 0, false}, {19, 0, false}, {47, 0, false}, {49, 0, false}, {77, 0, false}, {79, 0, false}, {80, 0, false}, {82, 0, false}, {256, 0, false}, {65536, 0, false}, {65552, 0, false}, {1 << 32, 0, false},
	} {
		if n, ok := mmu.Read(u, x.offset); n != x.n || ok != x.ok {
			t.Errorf("Read at %d: %d, %v; want %d, %v", x.offset, n, ok, x.n, x.ok)
		}
	}
}

func TestReadOfEveryStatusAndDescriptor(t *testing.T) {
	for status := range 4 {
		if n, ok := mmu.Read(api.Mmu{Status: status, Addr: 1}, 0); n != 2*status || !ok {
			t.Errorf("the status register with the status %d, off: %d, %v", status, n, ok)
		}
		if n, ok := mmu.Read(api.Mmu{On: true, Status: status}, 0); n != 2*status+1 || !ok {
			t.Errorf("the status register with the status %d, on: %d, %v", status, n, ok)
		}
	}
	for length := range 129 {
		for access := range 3 {
			for w := range 2 {
				u := onePage(1, 4, api.Page{Base: 9, Length: length, Access: access, Written: w == 1})
				if n, ok := mmu.Read(u, 66); n != length+256*access+32768*w || !ok {
					t.Errorf("the descriptor of length %d and access %d, written %d: %d, %v", length, access, w, n, ok)
				}
			}
		}
	}
	for base := range 4096 {
		if n, ok := mmu.Read(onePage(0, 3, api.Page{Base: base, Length: 4, Access: 1}), 28); n != base || !ok {
			t.Errorf("the base %d: %d, %v", base, n, ok)
		}
	}
}

// P9.4: Write.

// wantWrite returns the valid unit in which a register has been written.
func wantWrite(u api.Mmu, at place, v int) api.Mmu {
	p := &u.Pages[at.mode][at.page]
	switch at.name {
	case "status":
		u.On = bit(v, 0) == 1
		u.Status = bit(v, 1) + 2*bit(v, 2)
	case "base":
		p.Base = modulo(v, 4096)
	case "descriptor":
		if p.Length = modulo(v, 256); p.Length > 128 {
			p.Length = 128
		}
		if p.Access = bit(v, 8) + 2*bit(v, 9); p.Access == 3 {
			p.Access = 2
		}
		p.Written = false
	}
	return u
}

// checkWrite compares Write to a register with the model.
func checkWrite(t *testing.T, u api.Mmu, offset int, at place, v int) {
	t.Helper()
	before := u
	got, ok := mmu.Write(u, offset, v)
	if want := wantWrite(before, at, v); !ok || got != want {
		t.Errorf("Write of %d at %d (%s): %v, %+v; want %+v", v, offset, at.name, ok, got, want)
	}
	if u != before || !mmu.Right(got) {
		t.Errorf("Write of %d at %d has changed the unit or returns one that is not valid", v, offset)
	}
}

func TestWriteToEveryOffset(t *testing.T) {
	registers := places()
	for _, u := range samples() {
		for _, offset := range offsets() {
			if at, there := registers[offset]; there {
				for _, v := range append(aroundWords, farInts...) {
					checkWrite(t, u, offset, at, v)
				}
				continue
			}
			for _, v := range []int{0, 1, 7, 0x1ff, 65535, -1, math.MinInt, math.MaxInt} {
				if got, ok := mmu.Write(u, offset, v); ok || got != u {
					t.Errorf("Write of %d at %d: %v, %+v", v, offset, ok, got)
				}
			}
		}
	}
}

func TestWriteOfEveryWord(t *testing.T) {
	registers := places()
	u := sample()
	for v := -5; v < 65536+5; v++ {
		for _, offset := range []int{0, 2, 16, 18, 44, 46, 48, 50, 76, 78} {
			checkWrite(t, u, offset, registers[offset], v)
		}
	}
}

func TestWriteTheStatus(t *testing.T) {
	u := sample()
	for _, x := range []struct {
		v      int
		on     bool
		status int
	}{
		{0, false, 0}, {1, true, 0}, {2, false, 1}, {3, true, 1}, {4, false, 2}, {5, true, 2}, {6, false, 3}, {7, true, 3},
		{8, false, 0}, {9, true, 0}, {0xfff8, false, 0}, {0xffff, true, 3}, {0x10000, false, 0}, {0x10007, true, 3}, {-1, true, 3}, {-2, false, 3}, {-3, true, 2}, {-7, true, 0}, {-8, false, 0}, {math.MinInt, false, 0}, {math.MaxInt, true, 3},
	} {
		want := u
		want.On, want.Status = x.on, x.status
		if got, ok := mmu.Write(u, 0, x.v); !ok || got != want {
			t.Errorf("Write of the status %d: %v, on %v, status %d", x.v, ok, got.On, got.Status)
		}
	}
}

func TestWriteTheFaultAddress(t *testing.T) {
	for _, u := range samples() {
		for _, v := range append(aroundWords, farInts...) {
			if got, ok := mmu.Write(u, 2, v); !ok || got != u {
				t.Errorf("Write of the fault address %d: %v, %+v", v, ok, got)
			}
		}
	}
}

func TestWriteBases(t *testing.T) {
	// A base leaves everything else of its page, also that it has been written.
	u := onePage(1, 7, api.Page{Base: 77, Length: 128, Access: 2, Written: true})
	for _, x := range []struct{ v, base int }{{0, 0}, {1, 1}, {4095, 4095}, {4096, 0}, {4097, 1}, {65535, 4095}, {65536, 0}, {65537, 1}, {0xf123, 0x123}, {-1, 4095}, {-4096, 0}, {-4095, 1}, {-65536, 0}, {math.MinInt, 0}, {math.MinInt + 2, 2}, {math.MaxInt, 4095}} {
		want := onePage(1, 7, api.Page{Base: x.base, Length: 128, Access: 2, Written: true})
		if got, ok := mmu.Write(u, 76, x.v); !ok || got != want {
			t.Errorf("Write of the base %d: %v, %+v", x.v, ok, got.Pages[1][7])
		}
	}
}

func TestWriteDescriptors(t *testing.T) {
	for _, x := range []struct{ v, length, access int }{
		{0, 0, 0}, {1, 1, 0}, {127, 127, 0}, {128, 128, 0}, {129, 128, 0}, {130, 128, 0}, {192, 128, 0}, {254, 128, 0}, {255, 128, 0},
		{256, 0, 1}, {257, 1, 1}, {511, 128, 1}, {512, 0, 2}, {639, 127, 2}, {640, 128, 2}, {641, 128, 2}, {768, 0, 2}, {769, 1, 2}, {1023, 128, 2},
		{1024, 0, 0}, {1025, 1, 0}, {0x7c05, 5, 0}, {0x8000, 0, 0}, {0x8105, 5, 1}, {0x8280, 128, 2}, {0xffff, 128, 2}, {0xfcff, 128, 0}, {0xfd10, 16, 1},
		{65536, 0, 0}, {65536 + 258, 2, 1}, {-1, 128, 2}, {-256, 0, 2}, {-255, 1, 2}, {-512, 0, 2}, {-768, 0, 1}, {-1024, 0, 0}, {-1020, 4, 0}, {math.MinInt, 0, 0}, {math.MinInt + 0x103, 3, 1}, {math.MaxInt, 128, 2},
	} {
		for _, written := range []bool{false, true} {
			u := onePage(0, 0, api.Page{Base: 4095, Length: 7, Access: 1, Written: written})
			want := onePage(0, 0, api.Page{Base: 4095, Length: x.length, Access: x.access})
			if got, ok := mmu.Write(u, 18, x.v); !ok || got != want {
				t.Errorf("Write of the descriptor %d: %v, %+v", x.v, ok, got.Pages[0][0])
			}
		}
	}
}

// P9.5: Map and Reset.

// wantMap returns what Map of a valid unit returns.
func wantMap(u api.Mmu, mode, base, blocks, access int) (api.Mmu, api.Errno) {
	switch {
	case mode != 0 && mode != 1, access != 1 && access != 2, base < 0 || base > 4096, blocks < 0 || blocks > 1024, base+blocks > 4096:
		return api.Mmu{}, api.ErrArg
	}
	for i := range u.Pages[mode] {
		n := max(0, min(128, blocks-128*i))
		u.Pages[mode][i] = api.Page{}
		if n > 0 {
			u.Pages[mode][i] = api.Page{Base: base + 128*i, Length: n, Access: access}
		}
	}
	return u, api.OK
}

// checkMap compares Map with the model.
func checkMap(t *testing.T, u api.Mmu, mode, base, blocks, access int) {
	t.Helper()
	before := u
	got, e := mmu.Map(u, mode, base, blocks, access)
	if want, wantE := wantMap(before, mode, base, blocks, access); e != wantE || got != want {
		t.Errorf("Map(.., %d, %d, %d, %d) = %+v, %d; want %+v, %d", mode, base, blocks, access, got, e, want, wantE)
	}
	if u != before || !mmu.Right(got) {
		t.Errorf("Map(.., %d, %d, %d, %d) has changed the unit or returns one that is not valid", mode, base, blocks, access)
	}
}

func TestMapOfEveryNumberOfBlocks(t *testing.T) {
	for blocks := -2; blocks <= 1030; blocks++ {
		for _, base := range []int{-1, 0, 1, 10, 127, 128, 3071, 3072, 3073, 4095 - blocks, 4096 - blocks, 4097 - blocks, 4095, 4096, 4097} {
			checkMap(t, sample(), modulo(blocks, 2), base, blocks, 1+base%2)
			checkMap(t, sample(), modulo(blocks+1, 2), base, blocks, 2)
		}
	}
}

func TestMapOfEachUnit(t *testing.T) {
	for _, u := range samples() {
		for mode := range 2 {
			for access := 1; access <= 2; access++ {
				for _, blocks := range []int{0, 1, 2, 127, 128, 129, 130, 255, 256, 257, 895, 896, 897, 1023, 1024, 1025} {
					for _, base := range []int{0, 5, 3072, 4096 - blocks, 4097 - blocks} {
						checkMap(t, u, mode, base, blocks, access)
					}
				}
			}
		}
	}
}

func TestMapByHand(t *testing.T) {
	r := func(base, length int) api.Page { return api.Page{Base: base, Length: length, Access: api.AccRead} }
	for _, x := range []struct {
		base, blocks int
		pages        []api.Page
	}{
		{0, 0, nil}, {4096, 0, nil}, {77, 0, nil},
		{0, 1, []api.Page{r(0, 1)}}, {4095, 1, []api.Page{r(4095, 1)}}, {5, 127, []api.Page{r(5, 127)}}, {5, 128, []api.Page{r(5, 128)}}, {5, 129, []api.Page{r(5, 128), r(133, 1)}}, {10, 130, []api.Page{r(10, 128), r(138, 2)}}, {0, 256, []api.Page{r(0, 128), r(128, 128)}},
		{1, 897, []api.Page{r(1, 128), r(129, 128), r(257, 128), r(385, 128), r(513, 128), r(641, 128), r(769, 128), r(897, 1)}},
		{3073, 1023, []api.Page{r(3073, 128), r(3201, 128), r(3329, 128), r(3457, 128), r(3585, 128), r(3713, 128), r(3841, 128), r(3969, 127)}},
		{3072, 1024, []api.Page{r(3072, 128), r(3200, 128), r(3328, 128), r(3456, 128), r(3584, 128), r(3712, 128), r(3840, 128), r(3968, 128)}},
	} {
		for mode := range 2 {
			want := sample()
			want.Pages[mode] = [8]api.Page{}
			copy(want.Pages[mode][:], x.pages)
			if got, e := mmu.Map(sample(), mode, x.base, x.blocks, api.AccRead); e != api.OK || got != want {
				t.Errorf("Map of mode %d, base %d, %d blocks: %+v, %d", mode, x.base, x.blocks, got, e)
			}
		}
	}
}

func TestMapRefuses(t *testing.T) {
	type args struct{ mode, base, blocks, access int }
	l := []args{
		{0, 0, 0, 0}, {0, 0, 0, 3}, {1, 5, 1, 0}, {1, 5, 1, 3}, {1, 5, 1, -1}, {1, 5, 1, 4}, {1, 5, 1, 257}, {2, 0, 1, 1}, {3, 0, 1, 1}, {-1, 0, 1, 1}, {-2, 0, 1, 1}, {256, 0, 1, 2},
		{0, 0, -1, 1}, {0, 1, -1, 1}, {0, 4097, -1, 1}, {0, 0, 1025, 1}, {0, 4095, -1, 2}, {0, -1, 0, 1}, {0, -1, 1, 1}, {0, -1, 1024, 1}, {0, 4097, 0, 1}, {0, 4096, 1, 1}, {0, 4095, 2, 1}, {0, 3073, 1024, 1}, {0, 3969, 128, 1}, {1, 3970, 127, 2}, {2, -1, 1025, 3},
		{0, math.MaxInt, 1, 1}, {0, math.MaxInt, 1024, 1}, {0, math.MaxInt - 1023, 1024, 1}, {0, math.MinInt, 1024, 1}, {0, math.MinInt, 0, 1}, {0, 0, math.MaxInt, 1}, {0, 1, math.MaxInt, 1}, {0, 4096, math.MaxInt, 1}, {0, 0, math.MinInt, 1}, {0, 4096, math.MinInt, 1}, {0, math.MaxInt, math.MaxInt, 1}, {0, math.MinInt, math.MinInt, 1}, {0, math.MaxInt, math.MinInt, 1}, {0, math.MinInt, math.MaxInt, 2}, {0, math.MinInt + 4096, math.MinInt, 1},
	}
	for _, n := range farInts {
		l = append(l, args{n, 0, 1, 1}, args{0, n, 1, 1}, args{0, n, 0, 2}, args{1, n, 1024, 1}, args{0, 0, n, 1}, args{1, 4096, n, 2}, args{0, 0, 1, n}, args{n, n, n, n}, args{0, n, -n, 1}, args{0, -n, n, 1}, args{0, n, 100 - n, 1}, args{0, 1000 - n, n, 2})
	}
	for _, a := range l {
		// A small number may be allowed where its opposite is not; the model tells.
		if _, e := wantMap(api.Mmu{}, a.mode, a.base, a.blocks, a.access); e == api.OK {
			continue
		}
		for _, u := range samples() {
			if got, e := mmu.Map(u, a.mode, a.base, a.blocks, a.access); e != api.ErrArg || got != (api.Mmu{}) {
				t.Errorf("Map(.., %d, %d, %d, %d) = %+v, %d", a.mode, a.base, a.blocks, a.access, got, e)
			}
		}
	}
}

func TestMapOfModesAndAccesses(t *testing.T) {
	for mode := -3; mode <= 4; mode++ {
		for access := -2; access <= 5; access++ {
			for _, blocks := range []int{-1, 0, 1, 129, 1024, 1025} {
				checkMap(t, sample(), mode, 100, blocks, access)
			}
		}
	}
}

func TestMapAgain(t *testing.T) {
	// The pages of an earlier, longer mapping must not stay, nor that they were written.
	u, _ := mmu.Map(api.Mmu{On: true}, 1, 0, 1024, api.AccWrite)
	for page := range 8 {
		_, u, _ = mmu.Translate(u, 1, 8192*page, true)
	}
	u, e := mmu.Map(u, 1, 40, 130, api.AccRead)
	want := api.Mmu{On: true}
	want.Pages[1][0] = api.Page{Base: 40, Length: 128, Access: api.AccRead}
	want.Pages[1][1] = api.Page{Base: 168, Length: 2, Access: api.AccRead}
	if e != api.OK || u != want {
		t.Errorf("Map again: %+v, %d", u, e)
	}
}

func TestReset(t *testing.T) {
	for i, u := range samples() {
		before := u
		if got := mmu.Reset(u); got != (api.Mmu{}) {
			t.Errorf("Reset of the unit %d: %+v", i, got)
		}
		if u != before {
			t.Error("Reset has changed its argument")
		}
	}
}

// P9.6: consequences.

func TestReadingChangesTheUnitOnlyWithAFault(t *testing.T) {
	for _, u := range samples() {
		for addr := 0; addr < 65536; addr += 31 {
			for mode := range 2 {
				_, v, trap := mmu.Translate(u, mode, addr, false)
				if trap == api.TrNone && v != u {
					t.Errorf("reading at %d in mode %d changes the unit", addr, mode)
				}
				if v.Pages != u.Pages || v.On != u.On {
					t.Errorf("reading at %d in mode %d changes pages or turns the unit off", addr, mode)
				}
			}
		}
	}
}

func TestWritingAllRegistersOfAnotherUnit(t *testing.T) {
	for _, from := range samples() {
		for _, to := range samples() {
			got := to
			for offset := 16; offset <= 78; offset += 2 {
				v, _ := mmu.Read(from, offset)
				got, _ = mmu.Write(got, offset, v)
			}
			for offset := 0; offset <= 2; offset += 2 {
				v, _ := mmu.Read(from, offset)
				got, _ = mmu.Write(got, offset, v)
			}
			want := from
			want.Addr = to.Addr // this register cannot be written
			for i := range 16 {
				want.Pages[i/8][i%8].Written = false
			}
			if got != want {
				t.Errorf("all registers written: %+v; want %+v", got, want)
			}
		}
	}
}

func TestTranslateAfterMap(t *testing.T) {
	for _, x := range []struct{ base, blocks int }{{0, 0}, {9, 0}, {0, 1}, {4095, 1}, {10, 127}, {10, 128}, {10, 129}, {10, 130}, {2000, 500}, {3073, 1023}, {3072, 1024}, {0, 1024}} {
		for mode := range 2 {
			u, _ := mmu.Map(sample(), mode, x.base, x.blocks, api.AccWrite)
			r, _ := mmu.Map(sample(), mode, x.base, x.blocks, api.AccRead)
			for addr := range 65536 {
				want, wantTrap := 64*x.base+addr, api.TrNone
				if addr >= 64*x.blocks {
					want, wantTrap = 0, api.TrMmu
				}
				if p, _, trap := mmu.Translate(u, mode, addr, true); p != want || trap != wantTrap {
					t.Errorf("base %d, %d blocks, address %d: %d, %d", x.base, x.blocks, addr, p, trap)
				}
				if p, _, trap := mmu.Translate(r, mode, addr, false); p != want || trap != wantTrap {
					t.Errorf("base %d, %d blocks, address %d, reading: %d, %d", x.base, x.blocks, addr, p, trap)
				}
			}
			if _, v, trap := mmu.Translate(r, mode, 0, true); trap != api.TrMmu || x.blocks > 0 && v.Status != 3 {
				t.Errorf("base %d, %d blocks: writing of a page that is read is allowed", x.base, x.blocks)
			}
		}
	}
}

// All functions end without a panic for units that are not valid.

// wrongUnits has units in which one or all numbers are wrong.
func wrongUnits() []api.Mmu {
	var l []api.Mmu
	for _, n := range append([]int{3, 4, 129, 4096}, farInts...) {
		p := api.Page{Base: n, Length: n, Access: n, Written: true}
		l = append(l, onePage(0, 0, p), onePage(1, 7, p), onePage(0, 7, api.Page{Base: n, Length: 128, Access: 2}), onePage(1, 0, api.Page{Length: n, Access: 1}), onePage(1, 0, api.Page{Length: 5, Access: n}), api.Mmu{On: true, Status: n}, api.Mmu{Addr: n}, api.Mmu{Status: n, Addr: n})
	}
	return l
}

func TestUnitsThatAreNotValid(t *testing.T) {
	numbers := append([]int{0, 1, 2, 16, 18, 76, 78, 1024, 8191, 57344, 65535}, farInts...)
	for _, u := range wrongUnits() {
		before := u
		mmu.Right(u)
		for _, n := range numbers {
			for _, write := range []bool{false, true} {
				mmu.Translate(u, n, n, write)
				mmu.Translate(u, 0, n, write)
				mmu.Translate(u, 1, n, write)
			}
			mmu.Read(u, n)
			mmu.Write(u, n, n)
			mmu.Write(u, 18, n)
			mmu.Map(u, n, n, n, n)
			mmu.Map(u, 0, 1, 2, 1)
		}
		if got := mmu.Reset(u); got != (api.Mmu{}) || u != before {
			t.Errorf("Reset of %+v: %+v", before, got)
		}
	}
}

// The examples of the chapter.

func TestExamples(t *testing.T) {
	if p, _, trap := mmu.Translate(api.Mmu{}, 0, 0xe000, false); p != 0x3e000 || trap != api.TrNone {
		t.Error("example 1:", p, trap)
	}
	if p, _, trap := mmu.Translate(api.Mmu{}, 0, 0xdfff, false); p != 0xdfff || trap != api.TrNone {
		t.Error("example 1:", p, trap)
	}
	u, e := mmu.Map(api.Mmu{}, 1, 10, 130, api.AccWrite)
	u.On = true
	if e != api.OK || u.Pages[1][0].Length != 128 || u.Pages[1][1].Base != 138 || u.Pages[1][1].Length != 2 {
		t.Error("example 2: Map", u, e)
	}
	if p, _, trap := mmu.Translate(u, 1, 8192+127, false); p != 8959 || trap != api.TrNone {
		t.Error("example 2:", p, trap)
	}
	if _, v, trap := mmu.Translate(u, 1, 8192+128, false); v.Status != 2 || v.Addr != 8320 || trap != api.TrMmu {
		t.Error("example 2: fault", v.Status, trap)
	}
	_, v, _ := mmu.Translate(u, 1, 5, true)
	if n, ok := mmu.Read(v, 16+32+2); n != 33408 || !ok || !v.Pages[1][0].Written {
		t.Error("example 2: descriptor", n, ok)
	}
	u, _ = mmu.Map(u, 1, 10, 130, api.AccRead)
	_, v, trap := mmu.Translate(u, 1, 5, true)
	if n, ok := mmu.Read(v, 0); n != 7 || !ok || trap != api.TrMmu {
		t.Error("example 3:", n, ok, trap)
	}
}
