package memory_test

import (
	"fmt"
	"math"
	"slices"
	"strings"
	"testing"

	"emulator/api"
	"emulator/memory"
)

// small is the size of the smallest memory, in which most tests look at every address.
const small = 256

// farInts has numbers that are neither sizes nor addresses of any memory.
var farInts = []int{-1, -2, -3, -63, -64, -65, -128, -255, -256, -257, -320, -32768, -65535, -65536, -1 << 31, -1 << 32, -1<<32 + 256, -1 << 62, math.MinInt, math.MinInt + 1, math.MinInt + 2, math.MinInt + 64, math.MinInt + 256,
	32769, 32770, 32832, 33024, 65534, 65535, 65536, 65538, 65792, 1<<31 - 2, 1 << 31, 1 << 32, 1<<32 + 2, 1<<32 + 256, 1 << 40, 1 << 62, 1<<62 + 256, math.MaxInt - 256, math.MaxInt - 63, math.MaxInt - 2, math.MaxInt - 1, math.MaxInt}

// writtenValues has values to be written: bytes, words, and integers that are neither.
var writtenValues = []int{0, 1, 5, 127, 128, 254, 255, 256, 257, 0x1234, 0xff00, 32767, 32768, 65280, 65534, 65535, 65536, 65537, 65791, 65792, 131071, 1<<32 + 0x8001, 1 << 40, -1, -2, -128, -255, -256, -257, -32768, -65535, -65536, -65537, math.MaxInt, math.MaxInt - 1, math.MinInt, math.MinInt + 1, math.MinInt + 0x1234}

// someBads has lists of bad addresses of the smallest memory.
func someBads() [][]int {
	var all, third []int
	for addr := 0; addr < small; addr += 2 {
		all = append(all, addr)
		if addr%3 == 0 {
			third = append(third, addr)
		}
	}
	return [][]int{nil, {}, {0}, {254}, {0, 254}, {2}, {100, 102, 104}, {0, 2, 126, 128, 252, 254}, third, all}
}

// sample returns a memory of a size whose bytes all differ from their neighbours.
func sample(size int) []int {
	mem := make([]int, size/2)
	for i := range mem {
		mem[i] = sampleByte(2*i) + 256*sampleByte(2*i+1)
	}
	return mem
}

// sampleByte returns the byte at an address of a sample.
func sampleByte(addr int) int {
	return (addr*37 + addr/256*11 + 129) % 256
}

// modulo returns an integer modulo a positive one.
func modulo(n, m int) int {
	return (n%m + m) % m
}

// bytesOf returns the bytes of a memory.
func bytesOf(mem []int) []int {
	var l []int
	for _, w := range mem {
		l = append(l, w%256, w/256)
	}
	return l
}

// textOf returns the bytes of a memory as a string.
func textOf(mem []int) string {
	var b strings.Builder
	for _, x := range bytesOf(mem) {
		b.WriteByte(byte(x))
	}
	return b.String()
}

// badSet returns bad addresses as a set.
func badSet(bad []int) map[int]bool {
	m := map[int]bool{}
	for _, addr := range bad {
		m[addr] = true
	}
	return m
}

// listOf returns the ascending addresses of a set that are true.
func listOf(set map[int]bool) []int {
	var l []int
	for addr, in := range set {
		if in {
			l = append(l, addr)
		}
	}
	slices.Sort(l)
	return l
}

// guard fails if lists have been changed since it was called, also behind their ends.
func guard(t *testing.T, lists ...[]int) func() {
	var before [][]int
	for _, l := range lists {
		before = append(before, slices.Clone(l[:cap(l)]))
	}
	return func() {
		t.Helper()
		for i, l := range lists {
			if !slices.Equal(l[:cap(l)], before[i]) {
				t.Errorf("argument %d has been changed", i)
			}
		}
	}
}

// roomy returns a copy of a list with memory behind its end, into which nobody may write.
func roomy(l []int) []int {
	r := make([]int, len(l), len(l)+4)
	copy(r, l)
	for i := len(l); i < cap(r); i++ {
		r[:cap(r)][i] = -77
	}
	return r
}

// sameMemory reports whether two lists share memory.
func sameMemory(a, b []int) bool {
	if cap(a) == 0 || cap(b) == 0 {
		return false
	}
	a, b = a[:cap(a)], b[:cap(b)]
	for i := range a {
		for _, j := range []int{0, len(b) - 1} {
			if &a[i] == &b[j] {
				return true
			}
		}
	}
	for i := range b {
		for _, j := range []int{0, len(a) - 1} {
			if &b[i] == &a[j] {
				return true
			}
		}
	}
	return false
}

// P8.1: New and Right.

// allowedSizes has the sizes that a memory may have.
func allowedSizes() map[int]bool {
	m := map[int]bool{}
	for blocks := 4; blocks <= 512; blocks++ {
		m[64*blocks] = true
	}
	return m
}

func TestNewHasTheAllowedSizes(t *testing.T) {
	allowed := allowedSizes()
	if len(allowed) != 509 || !allowed[256] || !allowed[api.MaxMemory] {
		t.Fatal("the sizes of the test are wrong")
	}
	check := func(size int) {
		mem, e := memory.New(size)
		if !allowed[size] {
			if e != api.ErrArg || len(mem) != 0 {
				t.Errorf("New(%d) = %d words, %d", size, len(mem), e)
			}
			return
		}
		if e != api.OK || len(mem) != size/2 || slices.ContainsFunc(mem, func(w int) bool { return w != 0 }) {
			t.Errorf("New(%d) = %d words, %d", size, len(mem), e)
		}
		if !memory.Right(mem, nil) {
			t.Errorf("New(%d) is not valid", size)
		}
	}
	for size := range allowed {
		check(size)
		check(size - 1)
		check(size + 1)
		check(size - 2)
		check(size + 2)
		check(size + 32)
	}
	for size := -700; size <= 700; size++ {
		check(size)
	}
	for _, size := range []int{0, 64, 128, 192, 255, 257, 32767, 32768, 32769, 32832, 65536} {
		check(size)
	}
	for _, size := range farInts {
		check(size)
	}
}

func TestNewReturnsNewMemory(t *testing.T) {
	a, _ := memory.New(small)
	a[0], a[127] = 1, 2
	b, _ := memory.New(small)
	if b[0] != 0 || b[127] != 0 || sameMemory(a, b) {
		t.Error("two memories share their words")
	}
}

func TestRightLooksAtTheSize(t *testing.T) {
	allowed := allowedSizes()
	for words := 0; words <= api.MaxMemory/2+200; words++ {
		mem := make([]int, words)
		if got := memory.Right(mem, nil); got != allowed[2*words] {
			t.Errorf("Right of %d words: %v", words, got)
		}
	}
	if memory.Right(nil, nil) || memory.Right([]int{}, []int{}) || memory.Right(make([]int, 65536), nil) {
		t.Error("Right of no words, or of too many")
	}
}

func TestRightLooksAtEveryWord(t *testing.T) {
	for _, size := range []int{256, 320, api.MaxMemory} {
		mem := sample(size)
		for _, i := range []int{0, 1, 63, 64, 126, 127, size/2 - 2, size/2 - 1} {
			was := mem[i]
			for _, w := range []int{0, 1, 255, 256, 32767, 32768, 65534, 65535} {
				if mem[i] = w; !memory.Right(mem, nil) {
					t.Errorf("Right with the word %d at %d of %d bytes is false", w, 2*i, size)
				}
			}
			for _, w := range []int{-1, -2, -32768, -65536, 65536, 65537, 131072, 1 << 32, math.MinInt, math.MaxInt} {
				if mem[i] = w; memory.Right(mem, nil) {
					t.Errorf("Right with the word %d at %d of %d bytes is true", w, 2*i, size)
				}
			}
			mem[i] = was
		}
	}
}

func TestRightLooksAtEveryBadAddress(t *testing.T) {
	for _, size := range []int{256, 320, api.MaxMemory} {
		mem := sample(size)
		for addr := -300; addr <= size+300; addr++ {
			want := addr >= 0 && addr < size && modulo(addr, 2) == 0
			if got := memory.Right(mem, []int{addr}); got != want {
				t.Errorf("Right of %d bytes with the bad address %d: %v", size, addr, got)
			}
		}
	}
	mem := sample(small)
	for _, addr := range farInts {
		for _, bad := range [][]int{{addr}, {addr, 4}, {4, addr}, {0, addr, 254}} {
			if memory.Right(mem, bad) {
				t.Errorf("Right with the bad addresses %d", bad)
			}
		}
	}
}

func TestRightLooksAtTheOrder(t *testing.T) {
	mem := sample(small)
	for _, bad := range someBads() {
		if !memory.Right(mem, bad) {
			t.Errorf("Right with the bad addresses %d is false", bad)
		}
	}
	for a := -2; a <= small+2; a++ {
		for b := -2; b <= small+2; b++ {
			within := a >= 0 && b < small && a%2 == 0 && b%2 == 0
			if got := memory.Right(mem, []int{a, b}); got != (within && a < b) {
				t.Errorf("Right with the bad addresses %d and %d: %v", a, b, got)
			}
		}
	}
	for _, bad := range [][]int{{4, 4}, {6, 4}, {0, 0}, {254, 0}, {0, 4, 4}, {0, 4, 2, 6}, {0, 2, 4, 6, 8, 6}, {0, 2, 4, 5}, {0, 2, 4, 256}, {2, 4, 3, 6}, {0, 254, 254}, {-2, 0}, {254, 256}} {
		if memory.Right(mem, bad) {
			t.Errorf("Right with the bad addresses %d is true", bad)
		}
	}
}

func TestRightChangesNothing(t *testing.T) {
	mem, bad := roomy(sample(small)), roomy([]int{6, 4, 3})
	check := guard(t, mem, bad)
	memory.Right(mem, bad)
	memory.Right(mem, bad[:1])
	check()
}

// P8.2: Read.

// wantRead returns what Read of a valid memory returns.
func wantRead(mem, bad []int, addr int, byte bool) (int, api.Trap) {
	l, set := bytesOf(mem), badSet(bad)
	switch {
	case !byte && modulo(addr, 2) == 1, addr < 0, addr >= len(l):
		return 0, api.TrBus
	case set[addr], modulo(addr, 2) == 1 && set[addr-1]:
		return 0, api.TrParity
	case byte:
		return l[addr], api.TrNone
	}
	return l[addr] + 256*l[addr+1], api.TrNone
}

// addresses has all addresses of the smallest memory and of its neighbourhood, and far ones.
func addresses() []int {
	var l []int
	for addr := -70; addr <= small+70; addr++ {
		l = append(l, addr)
	}
	for _, addr := range farInts {
		l = append(l, addr)
	}
	return l
}

func TestReadOfEveryAddress(t *testing.T) {
	mem := roomy(sample(small))
	for _, bad := range someBads() {
		bad = roomy(bad)
		check := guard(t, mem, bad)
		for _, addr := range addresses() {
			for _, byte := range []bool{false, true} {
				v, trap := memory.Read(mem, bad, addr, byte)
				if wantV, wantTrap := wantRead(mem, bad, addr, byte); v != wantV || trap != wantTrap {
					t.Errorf("Read(.., %d, %d, %v) = %d, %d; want %d, %d", bad, addr, byte, v, trap, wantV, wantTrap)
				}
			}
		}
		check()
	}
}

func TestReadOfLargeMemories(t *testing.T) {
	for _, size := range []int{320, 4096, api.MaxMemory} {
		mem := sample(size)
		bad := []int{size/2 - 2, size - 2}
		spoilt := map[int]bool{size/2 - 2: true, size/2 - 1: true, size - 2: true, size - 1: true}
		for addr := -2; addr < size+2; addr++ {
			want, wantTrap := 0, api.TrBus
			switch {
			case spoilt[addr]:
				wantTrap = api.TrParity
			case addr >= 0 && addr < size:
				want, wantTrap = sampleByte(addr), api.TrNone
			}
			if v, trap := memory.Read(mem, bad, addr, true); v != want || trap != wantTrap {
				t.Errorf("Read of the byte at %d of %d: %d, %d", addr, size, v, trap)
			}
		}
	}
}

func TestReadByHand(t *testing.T) {
	mem, _ := memory.New(small)
	mem[0], mem[1], mem[2], mem[3], mem[127] = 0xffff, 0x1234, 0x8000, 0x00ff, 0xabcd
	for _, x := range []struct {
		bad  []int
		addr int
		byte bool
		v    int
		trap api.Trap
	}{
		{nil, 0, false, 65535, api.TrNone}, {nil, 2, false, 0x1234, api.TrNone}, {nil, 4, false, 0x8000, api.TrNone}, {nil, 6, false, 255, api.TrNone}, {nil, 254, false, 0xabcd, api.TrNone},
		{nil, 0, true, 255, api.TrNone}, {nil, 1, true, 255, api.TrNone}, {nil, 2, true, 0x34, api.TrNone}, {nil, 3, true, 0x12, api.TrNone}, {nil, 4, true, 0, api.TrNone}, {nil, 5, true, 128, api.TrNone}, {nil, 254, true, 0xcd, api.TrNone}, {nil, 255, true, 0xab, api.TrNone},
		{nil, 3, false, 0, api.TrBus}, {nil, 255, false, 0, api.TrBus}, {nil, 257, false, 0, api.TrBus}, {nil, 256, false, 0, api.TrBus}, {nil, 256, true, 0, api.TrBus}, {nil, -1, true, 0, api.TrBus}, {nil, -1, false, 0, api.TrBus}, {nil, -2, false, 0, api.TrBus},
		{[]int{2}, 2, false, 0, api.TrParity}, {[]int{2}, 2, true, 0, api.TrParity}, {[]int{2}, 3, true, 0, api.TrParity}, {[]int{2}, 3, false, 0, api.TrBus}, {[]int{2}, 1, true, 255, api.TrNone}, {[]int{2}, 4, true, 0, api.TrNone}, {[]int{2}, 0, false, 65535, api.TrNone}, {[]int{2}, 4, false, 0x8000, api.TrNone},
		{[]int{0, 254}, 0, true, 0, api.TrParity}, {[]int{0, 254}, 1, true, 0, api.TrParity}, {[]int{0, 254}, 255, true, 0, api.TrParity}, {[]int{0, 254}, 255, false, 0, api.TrBus}, {[]int{0, 254}, -1, true, 0, api.TrBus}, {[]int{0, 254}, 256, false, 0, api.TrBus},
	} {
		if v, trap := memory.Read(mem, x.bad, x.addr, x.byte); v != x.v || trap != x.trap {
			t.Errorf("Read %+v: %d, %d", x, v, trap)
		}
	}
}

// P8.3: Write.

// wantWrite returns what Write of a valid memory returns.
func wantWrite(mem, bad []int, addr int, byte bool, v int) ([]int, []int, api.Trap) {
	l, set := bytesOf(mem), badSet(bad)
	if !byte && modulo(addr, 2) == 1 || addr < 0 || addr >= len(l) {
		return nil, nil, api.TrBus
	}
	l[addr] = modulo(v, 256)
	if !byte {
		l[addr+1] = modulo(v, 65536) / 256
	}
	set[addr-addr%2] = false
	words := make([]int, len(mem))
	for i := range words {
		words[i] = l[2*i] + 256*l[2*i+1]
	}
	return words, listOf(set), api.TrNone
}

// checkWrite compares Write with the model.
func checkWrite(t *testing.T, mem, bad []int, addr int, byte bool, v int) {
	t.Helper()
	words, parity, trap := memory.Write(mem, bad, addr, byte, v)
	wantWords, wantParity, wantTrap := wantWrite(mem, bad, addr, byte, v)
	if trap != wantTrap || !slices.Equal(words, wantWords) || !slices.Equal(parity, wantParity) {
		t.Errorf("Write(.., %d, %d, %v, %d): trap %d, bad addresses %d", bad, addr, byte, v, trap, parity)
	}
	if trap == api.TrNone && !memory.Right(words, parity) {
		t.Errorf("Write(.., %d, %d, %v, %d) is not valid", bad, addr, byte, v)
	}
}

func TestWriteAtEveryAddress(t *testing.T) {
	mem := roomy(sample(small))
	for _, bad := range someBads() {
		bad = roomy(bad)
		check := guard(t, mem, bad)
		for i, addr := range addresses() {
			v := writtenValues[i%len(writtenValues)]
			checkWrite(t, mem, bad, addr, false, v)
			checkWrite(t, mem, bad, addr, true, v)
		}
		check()
	}
}

func TestWriteOfEveryValue(t *testing.T) {
	mem := roomy(sample(small))
	bad := roomy([]int{0, 4, 126, 254})
	check := guard(t, mem, bad)
	values := slices.Clone(writtenValues)
	for v := -600; v <= 600; v++ {
		values = append(values, v)
	}
	for _, v := range values {
		for _, addr := range []int{0, 1, 2, 3, 4, 5, 126, 127, 254, 255, 256, -1} {
			checkWrite(t, mem, bad, addr, false, v)
			checkWrite(t, mem, bad, addr, true, v)
		}
	}
	check()
}

func TestWriteOfEveryWord(t *testing.T) {
	mem := sample(small)
	for v := -65536; v < 131072; v += 7 {
		words, _, trap := memory.Write(mem, nil, 64, false, v)
		if trap != api.TrNone || words[32] != modulo(v, 65536) {
			t.Errorf("Write of the word %d: %d, %d", v, words[32], trap)
		}
		words, _, trap = memory.Write(mem, nil, 65, true, v)
		if trap != api.TrNone || words[32] != modulo(v, 256)*256+sampleByte(64) {
			t.Errorf("Write of the high byte %d: %d, %d", v, words[32], trap)
		}
	}
}

func TestWriteByHand(t *testing.T) {
	mem, _ := memory.New(small)
	mem[1], mem[2], mem[127] = 0x1234, 0xaaaa, 0x5678
	bad := []int{0, 2, 4, 254}
	for _, x := range []struct {
		addr int
		byte bool
		v    int
		word int
		bad  []int
	}{
		{2, false, 0x4321, 0x4321, []int{0, 4, 254}}, {2, false, -1, 65535, []int{0, 4, 254}}, {2, false, 65536, 0, []int{0, 4, 254}}, {2, false, -32768, 0x8000, []int{0, 4, 254}},
		{2, true, 5, 0x1205, []int{0, 4, 254}}, {3, true, 5, 0x0534, []int{0, 4, 254}}, {2, true, -1, 0x12ff, []int{0, 4, 254}}, {3, true, -1, 0xff34, []int{0, 4, 254}}, {2, true, 256, 0x1200, []int{0, 4, 254}}, {3, true, 0x1ff, 0xff34, []int{0, 4, 254}}, {3, true, 65535, 0xff34, []int{0, 4, 254}},
		{0, true, 7, 7, []int{2, 4, 254}}, {1, true, 7, 0x0700, []int{2, 4, 254}}, {5, true, 0, 0x00aa, []int{0, 2, 254}}, {255, true, 0xab, 0xab78, []int{0, 2, 4}}, {254, false, 1, 1, []int{0, 2, 4}}, {6, false, 9, 9, []int{0, 2, 4, 254}}, {7, true, 9, 0x0900, []int{0, 2, 4, 254}},
	} {
		words, parity, trap := memory.Write(mem, bad, x.addr, x.byte, x.v)
		if trap != api.TrNone || words[x.addr/2] != x.word || !slices.Equal(parity, x.bad) {
			t.Errorf("Write %+v: %#x, %d, %d", x, words[x.addr/2], parity, trap)
		}
	}
	for _, x := range []struct {
		addr int
		byte bool
	}{{1, false}, {3, false}, {255, false}, {256, false}, {257, false}, {256, true}, {257, true}, {-1, true}, {-1, false}, {-2, false}, {-2, true}, {math.MinInt, true}, {math.MaxInt, true}, {math.MaxInt - 1, false}} {
		if words, parity, trap := memory.Write(mem, bad, x.addr, x.byte, 1); trap != api.TrBus || len(words)+len(parity) != 0 {
			t.Errorf("Write %+v: %d, %d, %d", x, len(words), parity, trap)
		}
	}
}

func TestWriteReturnsNewMemory(t *testing.T) {
	mem := roomy(sample(small))
	for _, bad := range [][]int{roomy(nil), roomy([]int{0}), roomy([]int{0, 4, 254}), roomy([]int{8, 10})} {
		for _, addr := range []int{0, 4, 8, 100, 254} {
			words, parity, _ := memory.Write(mem, bad, addr, false, mem[addr/2])
			if sameMemory(words, mem) || sameMemory(parity, bad) || sameMemory(words, parity) {
				t.Errorf("Write at %d with the bad addresses %d shares memory", addr, bad)
			}
		}
	}
}

// P8.4: Spoil.

func TestSpoilAtEveryAddress(t *testing.T) {
	mem := roomy(sample(small))
	for _, bad := range someBads() {
		bad = roomy(bad)
		check := guard(t, mem, bad)
		for _, addr := range addresses() {
			want, wantError := bad, api.OK
			set := badSet(bad)
			switch {
			case modulo(addr, 2) == 1:
				want, wantError = nil, api.ErrArg
			case addr < 0 || addr >= small:
				want, wantError = nil, api.ErrRange
			default:
				set[addr] = true
				want = listOf(set)
			}
			got, e := memory.Spoil(mem, bad, addr)
			if e != wantError || !slices.Equal(got, want) {
				t.Errorf("Spoil(.., %d, %d) = %d, %d; want %d, %d", bad, addr, got, e, want, wantError)
			}
			if e == api.OK && !memory.Right(mem, got) {
				t.Errorf("Spoil(.., %d, %d) = %d is not valid", bad, addr, got)
			}
			if sameMemory(got, bad) {
				t.Errorf("Spoil(.., %d, %d) shares memory", bad, addr)
			}
		}
		check()
	}
}

func TestSpoilByHand(t *testing.T) {
	mem, _ := memory.New(small)
	for _, x := range []struct {
		bad  []int
		addr int
		want []int
		e    api.Errno
	}{
		{nil, 0, []int{0}, api.OK}, {nil, 254, []int{254}, api.OK}, {[]int{4, 254}, 0, []int{0, 4, 254}, api.OK}, {[]int{0, 4}, 254, []int{0, 4, 254}, api.OK}, {[]int{4, 254}, 100, []int{4, 100, 254}, api.OK},
		{[]int{4, 254}, 4, []int{4, 254}, api.OK}, {[]int{4, 254}, 254, []int{4, 254}, api.OK}, {[]int{0}, 0, []int{0}, api.OK},
		{[]int{4}, 5, nil, api.ErrArg}, {[]int{4}, -1, nil, api.ErrArg}, {[]int{4}, 255, nil, api.ErrArg}, {[]int{4}, 257, nil, api.ErrArg}, {[]int{4}, math.MaxInt, nil, api.ErrArg}, {[]int{4}, math.MinInt + 1, nil, api.ErrArg},
		{[]int{4}, 256, nil, api.ErrRange}, {[]int{4}, 258, nil, api.ErrRange}, {[]int{4}, -2, nil, api.ErrRange}, {[]int{4}, math.MinInt, nil, api.ErrRange}, {[]int{4}, math.MaxInt - 1, nil, api.ErrRange}, {[]int{4}, 32768, nil, api.ErrRange},
	} {
		if got, e := memory.Spoil(mem, x.bad, x.addr); e != x.e || !slices.Equal(got, x.want) {
			t.Errorf("Spoil %+v: %d, %d", x, got, e)
		}
	}
	large, _ := memory.New(api.MaxMemory)
	if got, e := memory.Spoil(large, []int{254}, 32766); e != api.OK || !slices.Equal(got, []int{254, 32766}) {
		t.Errorf("Spoil of the last word of the largest memory: %d, %d", got, e)
	}
	if got, e := memory.Spoil(large, []int{254}, 32768); e != api.ErrRange || len(got) != 0 {
		t.Errorf("Spoil behind the largest memory: %d, %d", got, e)
	}
}

// P8.5: Bytes, Store and Move.

// rangeEnds has addresses and numbers of bytes with which a range begins or ends at, before or behind an end of the smallest memory, or wraps around.
var rangeEnds = append([]int{0, 1, 2, 3, 4, 5, 7, 64, 127, 128, 129, 250, 251, 252, 253, 254, 255, 256, 257, 258, 300, 512}, farInts...)

// inside reports whether a range is within the smallest memory, counting its bytes with floating point numbers that do not wrap around.
func inside(addr, n int) bool {
	return addr >= 0 && n >= 0 && float64(addr)+float64(n) <= small
}

func TestBytesOfRanges(t *testing.T) {
	mem := roomy(sample(small))
	check := guard(t, mem)
	all := textOf(mem)
	compare := func(addr, n int) {
		s, e := memory.Bytes(mem, addr, n)
		switch {
		case !inside(addr, n):
			if e != api.ErrRange || s != "" {
				t.Errorf("Bytes(.., %d, %d) = %q, %d", addr, n, s, e)
			}
		case e != api.OK || s != all[addr:addr+n]:
			t.Errorf("Bytes(.., %d, %d) = %q, %d", addr, n, s, e)
		}
	}
	for _, addr := range rangeEnds {
		for _, n := range rangeEnds {
			compare(addr, n)
		}
	}
	for addr := -2; addr <= small+2; addr++ {
		for _, n := range []int{-1, 0, 1, 2, 3, 5, 8, small - addr - 1, small - addr, small - addr + 1} {
			compare(addr, n)
		}
	}
	check()
}

func TestBytesOfLargeMemories(t *testing.T) {
	for _, size := range []int{320, 4096, api.MaxMemory} {
		mem := sample(size)
		all := textOf(mem)
		if s, e := memory.Bytes(mem, 0, size); e != api.OK || s != all {
			t.Errorf("Bytes of all %d", size)
		}
		if s, e := memory.Bytes(mem, size-3, 3); e != api.OK || s != all[size-3:] {
			t.Errorf("Bytes of the last 3 of %d: %q, %d", size, s, e)
		}
		for _, x := range [][2]int{{0, size + 1}, {1, size}, {size, 1}, {size + 1, 0}, {size - 3, 4}, {-1, 1}, {-1, 0}, {0, -1}, {size, -1}, {2, math.MaxInt}, {math.MaxInt, 1}, {math.MaxInt, math.MaxInt}} {
			if s, e := memory.Bytes(mem, x[0], x[1]); e != api.ErrRange || s != "" {
				t.Errorf("Bytes(.., %d, %d) of %d: %q, %d", x[0], x[1], size, s, e)
			}
		}
		if s, e := memory.Bytes(mem, size, 0); e != api.OK || s != "" {
			t.Errorf("Bytes of none behind %d: %q, %d", size, s, e)
		}
	}
}

// pattern returns n bytes that differ from their neighbours and from those of a sample.
func pattern(n int) string {
	b := make([]byte, n)
	for i := range b {
		b[i] = byte(255 - 53*i)
	}
	return string(b)
}

// checkBytes compares a memory with a string.
func checkBytes(t *testing.T, what string, mem []int, want string) {
	t.Helper()
	if len(mem) != len(want)/2 || slices.ContainsFunc(mem, func(w int) bool { return w < 0 || w > 65535 }) {
		t.Errorf("%s: no memory of %d bytes", what, len(want))
		return
	}
	if got := textOf(mem); got != want {
		t.Errorf("%s: %q; want %q", what, got, want)
	}
}

func TestStoreInRanges(t *testing.T) {
	mem := roomy(sample(small))
	check := guard(t, mem)
	all := textOf(mem)
	compare := func(addr, n int) {
		what := fmt.Sprintf("Store at %d of %d bytes", addr, n)
		s := pattern(n)
		got, e := memory.Store(mem, addr, s)
		if !inside(addr, n) {
			if e != api.ErrRange || len(got) != 0 {
				t.Errorf("%s: %d words, %d", what, len(got), e)
			}
			return
		}
		if e != api.OK {
			t.Errorf("%s: %d", what, e)
			return
		}
		checkBytes(t, what, got, all[:addr]+s+all[addr+n:])
		if sameMemory(got, mem) {
			t.Errorf("%s shares memory", what)
		}
	}
	for _, addr := range rangeEnds {
		for _, n := range rangeEnds {
			if n >= 0 && n <= 512 {
				compare(addr, n)
			}
		}
	}
	for addr := -2; addr <= small+2; addr++ {
		for _, n := range []int{0, 1, 2, 3, 8, max(0, small-addr), max(0, small-addr+1)} {
			compare(addr, n)
		}
	}
	check()
}

func TestStoreInLargeMemories(t *testing.T) {
	mem := sample(api.MaxMemory)
	all := textOf(mem)
	for _, x := range [][2]int{{0, 32768}, {0, 32767}, {1, 32767}, {32765, 3}, {32768, 0}, {16383, 2}} {
		s := pattern(x[1])
		got, e := memory.Store(mem, x[0], s)
		if e != api.OK {
			t.Errorf("Store at %d of %d bytes: %d", x[0], x[1], e)
			continue
		}
		checkBytes(t, fmt.Sprint("Store ", x), got, all[:x[0]]+s+all[x[0]+x[1]:])
	}
	for _, x := range [][2]int{{0, 32769}, {1, 32768}, {32766, 3}, {32768, 1}, {32769, 0}, {-1, 1}, {math.MaxInt, 1}, {math.MinInt, 0}} {
		if got, e := memory.Store(mem, x[0], pattern(x[1])); e != api.ErrRange || len(got) != 0 {
			t.Errorf("Store at %d of %d bytes: %d words, %d", x[0], x[1], len(got), e)
		}
	}
}

// checkMove compares Move of the smallest memory with the same done with strings.
func checkMove(t *testing.T, mem []int, all string, to, from, n int) {
	t.Helper()
	got, e := memory.Move(mem, to, from, n)
	if !inside(from, n) || !inside(to, n) {
		if e != api.ErrRange || len(got) != 0 {
			t.Errorf("Move(.., %d, %d, %d): %d words, %d", to, from, n, len(got), e)
		}
		return
	}
	if e != api.OK {
		t.Errorf("Move(.., %d, %d, %d): %d", to, from, n, e)
		return
	}
	checkBytes(t, fmt.Sprintf("Move to %d from %d of %d bytes", to, from, n), got, all[:to]+all[from:from+n]+all[to+n:])
}

func TestMoveOfRanges(t *testing.T) {
	mem := roomy(sample(small))
	check := guard(t, mem)
	all := textOf(mem)
	ends := []int{0, 1, 2, 3, 4, 5, 128, 129, 250, 251, 252, 253, 254, 255, 256, 257, -1, -2, -256, -1 << 32, math.MinInt, math.MinInt + 1, 1 << 31, 1<<32 + 2, 1 << 62, math.MaxInt - 256, math.MaxInt - 2, math.MaxInt - 1, math.MaxInt}
	for _, to := range ends {
		for _, from := range ends {
			for _, n := range ends {
				checkMove(t, mem, all, to, from, n)
			}
		}
	}
	check()
}

func TestMoveOfOverlappingRanges(t *testing.T) {
	mem := sample(small)
	all := textOf(mem)
	for from := 96; from < 104; from++ {
		for to := from - 12; to <= from+12; to++ {
			for n := 0; n <= 12; n++ {
				checkMove(t, mem, all, to, from, n)
			}
		}
	}
	for _, x := range [][3]int{{0, 1, 255}, {1, 0, 255}, {0, 2, 254}, {2, 0, 254}, {0, 3, 253}, {3, 0, 253}, {0, 0, 256}, {128, 127, 128}, {127, 128, 128}, {1, 0, 256}, {0, 1, 256}} {
		checkMove(t, mem, all, x[0], x[1], x[2])
	}
}

func TestMoveReturnsNewMemory(t *testing.T) {
	mem := roomy(sample(small))
	for _, x := range [][3]int{{0, 0, 0}, {0, 0, 256}, {256, 256, 0}, {4, 4, 9}, {1, 2, 3}} {
		got, e := memory.Move(mem, x[0], x[1], x[2])
		if e != api.OK || sameMemory(got, mem) {
			t.Errorf("Move %d shares memory, or fails: %d", x, e)
		}
	}
}

func TestMoveInLargeMemories(t *testing.T) {
	mem := sample(api.MaxMemory)
	all := textOf(mem)
	for _, x := range [][3]int{{0, 1, 32767}, {1, 0, 32767}, {0, 16384, 16384}, {16384, 0, 16384}, {16383, 1, 16385}, {32767, 0, 1}, {0, 32767, 1}, {32768, 0, 0}} {
		got, e := memory.Move(mem, x[0], x[1], x[2])
		if e != api.OK {
			t.Errorf("Move %d: %d", x, e)
			continue
		}
		checkBytes(t, fmt.Sprint("Move ", x), got, all[:x[0]]+all[x[1]:x[1]+x[2]]+all[x[0]+x[2]:])
	}
	for _, x := range [][3]int{{0, 1, 32768}, {1, 0, 32768}, {0, 0, 32769}, {32768, 0, 1}, {0, 32768, 1}, {32769, 0, 0}, {0, 32769, 0}} {
		if got, e := memory.Move(mem, x[0], x[1], x[2]); e != api.ErrRange || len(got) != 0 {
			t.Errorf("Move %d: %d words, %d", x, len(got), e)
		}
	}
}

// P8.6: what is written is read, and nothing else is changed.

func TestWrittenIsRead(t *testing.T) {
	mem := sample(small)
	for _, bad := range someBads() {
		for addr := 0; addr < small; addr++ {
			for _, byte := range []bool{false, true} {
				if !byte && addr%2 == 1 {
					continue
				}
				v := writtenValues[addr%len(writtenValues)]
				words, parity, _ := memory.Write(mem, bad, addr, byte, v)
				width := 65536
				if byte {
					width = 256
				}
				if got, trap := memory.Read(words, parity, addr, byte); trap != api.TrNone || got != modulo(v, width) {
					t.Errorf("Read after Write(.., %d, %d, %v, %d): %d, %d", bad, addr, byte, v, got, trap)
				}
				checkOthers(t, mem, bad, words, parity, addr)
				if other := addr - addr%2 + (addr+1)%2; byte {
					// the other byte of the word keeps its value and may be read now
					if got, trap := memory.Read(words, parity, other, true); trap != api.TrNone || got != sampleByte(other) {
						t.Errorf("Read at %d after Write(.., %d, %d, true, %d): %d, %d", other, bad, addr, v, got, trap)
					}
				}
			}
		}
	}
}

// checkOthers checks that words at other addresses than the one that was written are read as before.
func checkOthers(t *testing.T, mem, bad, words, parity []int, addr int) {
	t.Helper()
	for other := 0; other < small; other++ {
		if other/2 == addr/2 {
			continue
		}
		for _, byte := range []bool{false, true} {
			v, trap := memory.Read(mem, bad, other, byte)
			if got, gotTrap := memory.Read(words, parity, other, byte); got != v || gotTrap != trap {
				t.Errorf("Read(.., %d, %v) after Write at %d: %d, %d; before: %d, %d", other, byte, addr, got, gotTrap, v, trap)
			}
		}
	}
}

// P8.7: what is stored or moved is in its place.

func TestStoredIsRead(t *testing.T) {
	mem := sample(small)
	for addr := 0; addr <= small; addr++ {
		for _, n := range []int{0, 1, 2, 5, 16, small - addr} {
			s := pattern(min(n, small-addr))
			got, e := memory.Store(mem, addr, s)
			if read, f := memory.Bytes(got, addr, len(s)); e != api.OK || f != api.OK || read != s {
				t.Errorf("Bytes after Store at %d of %q: %q, %d, %d", addr, s, read, e, f)
			}
		}
	}
	var every [256]byte
	for i := range every {
		every[i] = byte(i)
	}
	got, _ := memory.Store(mem, 0, string(every[:]))
	if read, _ := memory.Bytes(got, 0, small); read != string(every[:]) {
		t.Error("Bytes after Store of every byte")
	}
}

func TestMovedIsRead(t *testing.T) {
	mem := sample(small)
	for from := 0; from <= small; from += 5 {
		for to := 0; to <= small; to += 3 {
			for _, n := range []int{0, 1, 2, 7, 64, small - max(from, to)} {
				n = min(n, small-max(from, to))
				was, _ := memory.Bytes(mem, from, n)
				got, e := memory.Move(mem, to, from, n)
				if read, f := memory.Bytes(got, to, n); e != api.OK || f != api.OK || read != was {
					t.Errorf("Bytes after Move to %d from %d of %d: %q, %d, %d", to, from, n, read, e, f)
				}
			}
		}
	}
}

// P8.8: a word that is spoilt causes a trap until it, or one of its bytes, is written.

func TestSpoiltUntilWritten(t *testing.T) {
	mem := sample(small)
	for _, bad := range someBads() {
		for addr := 0; addr < small; addr += 2 {
			spoilt, e := memory.Spoil(mem, bad, addr)
			if e != api.OK || !trapsParity(mem, spoilt, addr) {
				t.Errorf("Spoil(.., %d, %d) causes no trap: %d", bad, addr, e)
			}
			for _, at := range []int{addr - 2, addr - 1, addr + 2, addr + 3} {
				words, parity, trap := memory.Write(mem, spoilt, at, true, 1)
				if trap == api.TrNone && !trapsParity(words, parity, addr) {
					t.Errorf("after Spoil at %d and Write at %d no trap is caused", addr, at)
				}
			}
			for _, x := range []struct {
				at   int
				byte bool
			}{{addr, false}, {addr, true}, {addr + 1, true}} {
				words, parity, trap := memory.Write(mem, spoilt, x.at, x.byte, 1)
				if trap != api.TrNone || trapsAtAll(words, parity, addr) {
					t.Errorf("after Spoil at %d and Write %+v a trap is caused", addr, x)
				}
				again, _ := memory.Spoil(words, parity, addr)
				if !trapsParity(words, again, addr) {
					t.Errorf("a second Spoil at %d causes no trap", addr)
				}
			}
		}
	}
}

// trapsParity reports whether a word and both of its bytes cause parity traps.
func trapsParity(mem, bad []int, addr int) bool {
	_, word := memory.Read(mem, bad, addr, false)
	_, low := memory.Read(mem, bad, addr, true)
	_, high := memory.Read(mem, bad, addr+1, true)
	return word == api.TrParity && low == api.TrParity && high == api.TrParity
}

// trapsAtAll reports whether a word or one of its bytes causes a trap.
func trapsAtAll(mem, bad []int, addr int) bool {
	_, word := memory.Read(mem, bad, addr, false)
	_, low := memory.Read(mem, bad, addr, true)
	_, high := memory.Read(mem, bad, addr+1, true)
	return word != api.TrNone || low != api.TrNone || high != api.TrNone
}

func TestSpoiltDuringBytesStoreAndMove(t *testing.T) {
	// These have no bad addresses, so that what they return is used with those from before.
	mem := sample(small)
	spoilt, _ := memory.Spoil(mem, nil, 4)
	if s, e := memory.Bytes(mem, 4, 2); e != api.OK || s != textOf(mem)[4:6] {
		t.Errorf("Bytes of a spoilt word: %q, %d", s, e)
	}
	stored, _ := memory.Store(mem, 4, "ab")
	moved, _ := memory.Move(mem, 4, 8, 2)
	if !trapsParity(stored, spoilt, 4) || !trapsParity(moved, spoilt, 4) || trapsAtAll(moved, spoilt, 8) {
		t.Error("Store or Move change the parity")
	}
}

// All functions end without a panic for all arguments.

func TestLists(t *testing.T) {
	lists := [][]int{nil, {}, {0}, {65535}, {-1}, {65536}, {1, 2, 3}, make([]int, 127), make([]int, 129), make([]int, 160), make([]int, 16385), {math.MinInt, math.MaxInt}, {5, 3, 1}, {2, 2, 2}, {254, 2, 0}, {-4, -2, 0}, slices.Repeat([]int{-1}, 128), slices.Repeat([]int{1 << 40}, 128), slices.Repeat([]int{math.MinInt}, 128)}
	numbers := append([]int{0, 1, 2, 3, 4, 5, 64, 254, 255, 256, 258, 32766, 32767, 32768}, farInts...)
	for _, mem := range lists {
		for _, bad := range lists {
			check := guard(t, mem, bad)
			memory.Right(mem, bad)
			for i, addr := range numbers {
				for _, byte := range []bool{false, true} {
					memory.Read(mem, bad, addr, byte)
					memory.Write(mem, bad, addr, byte, writtenValues[i%len(writtenValues)])
				}
				memory.Spoil(mem, bad, addr)
			}
			check()
		}
		checkRangesOf(t, mem, numbers)
	}
}

// checkRangesOf checks that Bytes, Store and Move end for a list, and refuse ranges that are not within it.
func checkRangesOf(t *testing.T, mem []int, numbers []int) {
	check := guard(t, mem)
	for _, addr := range numbers {
		memory.Store(mem, addr, "")
		memory.Store(mem, addr, "abc")
		for _, n := range numbers {
			within := addr >= 0 && n >= 0 && float64(addr)+float64(n) <= float64(2*len(mem))
			if s, e := memory.Bytes(mem, addr, n); within != (e == api.OK) || !within && s != "" {
				t.Errorf("Bytes(%d words, %d, %d): %d bytes, %d", len(mem), addr, n, len(s), e)
			}
			memory.Move(mem, addr, 0, n)
			memory.Move(mem, 1, addr, n)
		}
	}
	check()
}

func TestNoMemoryHasNoAddress(t *testing.T) {
	for _, addr := range append([]int{0, 1, 2}, farInts...) {
		for _, byte := range []bool{false, true} {
			if v, trap := memory.Read(nil, nil, addr, byte); v != 0 || trap != api.TrBus {
				t.Errorf("Read at %d of no memory: %d, %d", addr, v, trap)
			}
			if words, parity, trap := memory.Write(nil, []int{0}, addr, byte, 1); len(words)+len(parity) != 0 || trap != api.TrBus {
				t.Errorf("Write at %d of no memory: %d, %d, %d", addr, words, parity, trap)
			}
		}
	}
	if l, e := memory.Spoil(nil, nil, 0); len(l) != 0 || e != api.ErrRange {
		t.Errorf("Spoil of no memory: %d, %d", l, e)
	}
}

// The examples of the chapter.

func TestExamples(t *testing.T) {
	mem, e := memory.New(256)
	if len(mem) != 128 || e != api.OK {
		t.Error("example 1: New(256)", len(mem), e)
	}
	for _, size := range []int{255, 192} {
		if l, e := memory.New(size); len(l) != 0 || e != api.ErrArg {
			t.Error("example 1: New", size, len(l), e)
		}
	}
	mem, bad, _ := memory.Write(mem, nil, 2, false, 0x1234)
	low, _ := memory.Read(mem, bad, 2, true)
	high, _ := memory.Read(mem, bad, 3, true)
	if _, trap := memory.Read(mem, bad, 3, false); low != 0x34 || high != 0x12 || trap != api.TrBus {
		t.Error("example 2:", low, high, trap)
	}
	bad, _ = memory.Spoil(mem, bad, 2)
	if _, trap := memory.Read(mem, bad, 3, true); trap != api.TrParity {
		t.Error("example 3: Read", trap)
	}
	mem, bad, _ = memory.Write(mem, bad, 3, true, 5)
	if v, trap := memory.Read(mem, bad, 2, false); v != 0x0534 || trap != api.TrNone || len(bad) != 0 {
		t.Error("example 3: Write", v, trap, bad)
	}
	if s, e := memory.Bytes(mem, 250, 7); s != "" || e != api.ErrRange {
		t.Error("example 4:", s, e)
	}
	if s, e := memory.Bytes(mem, 256, 0); s != "" || e != api.OK {
		t.Error("example 4:", s, e)
	}
	mem, _ = memory.Store(mem, 0, "abc")
	mem, e = memory.Move(mem, 1, 0, 3)
	if s, _ := memory.Bytes(mem, 0, 4); e != api.OK || s != "aabc" {
		t.Error("example 5:", s, e)
	}
}
