package bus_test

import (
	"math"
	"slices"
	"testing"

	"emulator/api"
	"emulator/bus"
	"emulator/clock"
	"emulator/diskctl"
	"emulator/line"
	"emulator/mmu"
	"emulator/tape"
)

// register is a register of a machine: its offset, its contents, how a device changes when it is read (nil: not at all), and when it is written.
type register struct {
	offset   int
	contents func(m api.Machine) int
	read     func(m *api.Machine)
	write    func(m *api.Machine, v int)
}

// flag returns a number if something is set.
func flag(set bool, n int) int {
	if set {
		return n
	}
	return 0
}

// registersOf returns the registers of a machine with so many lines.
func registersOf(lines int) []register {
	l := slices.Concat(mmuRegisters(), diskRegisters(), tapeRegisters())
	l = append(l, register{256, func(m api.Machine) int { return flag(m.Clock.Enable, 64) + flag(m.Clock.Ready, 128) }, nil, func(m *api.Machine, v int) { m.Clock = clock.Write(m.Clock, v) }})
	for i := range lines {
		l = append(l, lineRegisters(i)...)
	}
	return l
}

func mmuRegisters() []register {
	write := func(offset int) func(m *api.Machine, v int) {
		return func(m *api.Machine, v int) { m.Mmu, _ = mmu.Write(m.Mmu, offset, v) }
	}
	l := []register{
		{0, func(m api.Machine) int { return flag(m.Mmu.On, 1) + 2*m.Mmu.Status }, nil, write(0)},
		{2, func(m api.Machine) int { return m.Mmu.Addr }, nil, write(2)},
	}
	for mode := range 2 {
		for page := range 8 {
			offset := 16 + 32*mode + 4*page
			l = append(l, register{offset, func(m api.Machine) int { return m.Mmu.Pages[mode][page].Base }, nil, write(offset)})
			l = append(l, register{offset + 2, func(m api.Machine) int {
				p := m.Mmu.Pages[mode][page]
				return p.Length + 256*p.Access + flag(p.Written, 32768)
			}, nil, write(offset + 2)})
		}
	}
	return l
}

func lineRegisters(i int) []register {
	write := func(reg int) func(m *api.Machine, v int) {
		return func(m *api.Machine, v int) { m.Lines[i] = line.Write(m.Lines[i], reg, v) }
	}
	first := 512 + 8*i
	return []register{
		{first, func(m api.Machine) int { return flag(m.Lines[i].RxEnable, 64) + flag(m.Lines[i].RxReady, 128) }, nil, write(0)},
		{first + 2, func(m api.Machine) int { return m.Lines[i].RxData + flag(m.Lines[i].Overrun, 32768) }, func(m *api.Machine) { m.Lines[i].RxReady, m.Lines[i].Overrun = false, false }, write(2)},
		{first + 4, func(m api.Machine) int { return flag(m.Lines[i].TxEnable, 64) + flag(m.Lines[i].TxReady, 128) }, nil, write(4)},
		{first + 6, func(m api.Machine) int { return 0 }, nil, write(6)},
	}
}

func diskRegisters() []register {
	write := func(reg int) func(m *api.Machine, v int) {
		return func(m *api.Machine, v int) { m.Disk, _ = diskctl.Write(m.Disk, reg, v) }
	}
	return []register{
		{768, func(m api.Machine) int {
			return 2*m.Disk.Command + flag(m.Disk.Enable, 64) + flag(m.Disk.Ready, 128) + flag(m.Disk.Error, 32768)
		}, nil, write(0)},
		{770, func(m api.Machine) int { return m.Disk.Words }, nil, write(2)},
		{772, func(m api.Machine) int { return m.Disk.Addr }, nil, write(4)},
		{774, func(m api.Machine) int { return m.Disk.Start }, nil, write(6)},
	}
}

func tapeRegisters() []register {
	write := func(reg int) func(m *api.Machine, v int) {
		return func(m *api.Machine, v int) { m.Tape, _ = tape.Write(m.Tape, reg, v) }
	}
	return []register{
		{800, func(m api.Machine) int {
			return 2*m.Tape.Command + flag(m.Tape.Enable, 64) + flag(m.Tape.Ready, 128) + flag(m.Tape.Mark, 256) + flag(m.Tape.End, 512) + flag(m.Tape.Error, 32768)
		}, nil, write(0)},
		{802, func(m api.Machine) int { return m.Tape.Count }, nil, write(2)},
		{804, func(m api.Machine) int { return m.Tape.Addr }, nil, write(4)},
	}
}

// registerAt returns the register at an offset, and whether there is one.
func registerAt(lines, offset int) (register, bool) {
	for _, r := range registersOf(lines) {
		if r.offset == offset {
			return r, true
		}
	}
	return register{}, false
}

// laps has multiples of the number of physical addresses.
var laps = []int{0, physBytes, 2 * physBytes, -physBytes, -3 * physBytes, 1 << 32, -1 << 32, 1 << 62, math.MinInt, math.MaxInt - (physBytes - 1)}

func TestRegistersOfTheTest(t *testing.T) {
	want := []int{0, 2, 16, 18, 20, 22, 24, 26, 28, 30, 32, 34, 36, 38, 40, 42, 44, 46, 48, 50, 52, 54, 56, 58, 60, 62, 64, 66, 68, 70, 72, 74, 76, 78, 256, 512, 514, 516, 518, 520, 522, 524, 526, 528, 530, 532, 534, 536, 538, 540, 542, 768, 770, 772, 774, 800, 802, 804}
	var got []int
	for _, r := range registersOf(4) {
		got = append(got, r.offset)
	}
	slices.Sort(got)
	if !slices.Equal(got, want) {
		t.Errorf("offsets %v", got)
	}
	for _, lap := range laps {
		if remainder(lap, physBytes) != 0 {
			t.Errorf("%d is no multiple of the number of addresses", lap)
		}
	}
}

// expectRead checks a read: its result, and the machine after it.
func expectRead(t *testing.T, m api.Machine, phys int, byte bool, want api.Machine, v int, trap api.Trap) {
	t.Helper()
	got, n, f := bus.Read(m, phys, byte)
	if n != v || f != trap {
		t.Fatalf("Read(%d, %v): %d, trap %d, want %d, trap %d", phys, byte, n, f, v, trap)
	}
	if !same(got, want) {
		t.Fatalf("Read(%d, %v): changed are %s", phys, byte, differences(got, want))
	}
}

// expectWrite checks a write.
func expectWrite(t *testing.T, m api.Machine, phys int, byte bool, v int, want api.Machine, trap api.Trap) {
	t.Helper()
	got, f := bus.Write(m, phys, byte, v)
	if f != trap {
		t.Fatalf("Write(%d, %v, %d): trap %d, want %d", phys, byte, v, f, trap)
	}
	if !same(got, want) {
		t.Fatalf("Write(%d, %v, %d): wrong are %s", phys, byte, v, differences(got, want))
	}
}

// P18.2: Read.

// readMemory returns what a read of memory gives.
func readMemory(m api.Machine, addr int, byte bool) (int, api.Trap) {
	if addr >= 2*len(m.Mem) || addr%2 == 1 && !byte {
		return 0, api.TrBus
	}
	if slices.Contains(m.Bad, addr-addr%2) {
		return 0, api.TrParity
	}
	w := m.Mem[addr/2]
	switch {
	case !byte:
		return w, api.TrNone
	case addr%2 == 1:
		return w / 256, api.TrNone
	}
	return w % 256, api.TrNone
}

func TestReadOfMemory(t *testing.T) {
	badLists := [][]int{nil, {0}, {2}, {254}, {10, 12, 100}, {0, 2, 4, 128, 252, 254}}
	for _, m := range []api.Machine{quiet(256, 1), inUse(256, 2)} {
		for _, bad := range badLists {
			m.Bad = bad
			for _, lap := range laps {
				for addr := range 330 {
					for _, byte := range bools {
						v, trap := readMemory(m, addr, byte)
						expectRead(t, m, lap+addr, byte, m, v, trap)
					}
				}
			}
		}
	}
}

func TestReadBehindMemory(t *testing.T) {
	for _, size := range []int{256, 320, 8192, 32704, 32768} {
		m := inUse(size, 1)
		for _, addr := range []int{size - 4, size - 3, size - 2, size - 1, size, size + 1, size + 2, size + 63, size + 64, 2 * size, 32766, 32767, 32768, 32769, 32770, 65535, 65536, 65536 + 10, 131072, 131072 + 10, ioBase - 8192, ioBase - 2, ioBase - 1} {
			for _, byte := range bools {
				v, trap := readMemory(m, addr, byte)
				expectRead(t, m, addr, byte, m, v, trap)
				expectRead(t, m, addr-physBytes, byte, m, v, trap)
			}
		}
	}
	m := quiet(256, 4)
	for addr := 256; addr < ioBase; addr += 1 + addr%5 {
		expectRead(t, m, addr, addr%3 == 0, m, 0, api.TrBus)
	}
}

func TestReadOfMemoryByHand(t *testing.T) {
	m := quiet(256, 0)
	m.Mem[0], m.Mem[5], m.Mem[127] = 0xABCD, 0x1234, 0xFF01
	m.Bad = []int{12}
	for _, c := range []struct {
		phys int
		byte bool
		v    int
		trap api.Trap
	}{
		{0, false, 0xABCD, api.TrNone}, {0, true, 0xCD, api.TrNone}, {1, true, 0xAB, api.TrNone}, {1, false, 0, api.TrBus},
		{10, false, 0x1234, api.TrNone}, {10, true, 0x34, api.TrNone}, {11, true, 0x12, api.TrNone}, {11, false, 0, api.TrBus},
		{12, false, 0, api.TrParity}, {12, true, 0, api.TrParity}, {13, true, 0, api.TrParity}, {13, false, 0, api.TrBus},
		{254, false, 0xFF01, api.TrNone}, {255, true, 0xFF, api.TrNone}, {255, false, 0, api.TrBus}, {256, false, 0, api.TrBus}, {256, true, 0, api.TrBus},
		{physBytes, false, 0xABCD, api.TrNone}, {physBytes + 11, true, 0x12, api.TrNone}, {-physBytes + 10, false, 0x1234, api.TrNone}, {-physBytes + 256, false, 0, api.TrBus},
		{-1, false, 0, api.TrBus}, {-1, true, 0, api.TrBus}, {-2, false, 0, api.TrBus}, {ioBase - 1, true, 0, api.TrBus}, {ioBase - 2, false, 0, api.TrBus},
	} {
		expectRead(t, m, c.phys, c.byte, m, c.v, c.trap)
	}
}

// readRegister returns what a read from the I/O page gives.
func readRegister(m api.Machine, offset int, byte bool) (api.Machine, int, api.Trap) {
	r, ok := registerAt(len(m.Lines), offset-offset%2)
	if !ok || offset%2 == 1 && !byte {
		return m, 0, api.TrBus
	}
	v := r.contents(m)
	after := kept(m)
	if r.read != nil {
		r.read(&after)
	}
	switch {
	case !byte:
		return after, v, api.TrNone
	case offset%2 == 1:
		return after, v / 256, api.TrNone
	}
	return after, v % 256, api.TrNone
}

func TestReadOfTheWholePage(t *testing.T) {
	for lines := range 5 {
		for i, m := range []api.Machine{inUse(256, lines), requesting(256, lines)} {
			m.Mmu = pagesOf(i + 1)
			found := 0
			for offset := range 8192 {
				for _, byte := range bools {
					want, v, trap := readRegister(m, offset, byte)
					expectRead(t, m, ioBase+offset, byte, want, v, trap)
					if trap == api.TrNone {
						found++
					}
				}
			}
			if want := 3 * (34 + 1 + 4*lines + 4 + 3); found != want {
				t.Errorf("%d lines: %d reads without a trap, want %d", lines, found, want)
			}
		}
	}
}

func TestReadOfTheWholePageInOtherLaps(t *testing.T) {
	m := inUse(256, 2)
	for _, lap := range laps {
		for _, offset := range slices.Concat(upTo(0, 820), upTo(8180, 8191)) {
			for _, byte := range bools {
				want, v, trap := readRegister(m, offset, byte)
				expectRead(t, m, lap+ioBase+offset, byte, want, v, trap)
			}
		}
	}
}

func TestReadOfRegistersByHand(t *testing.T) {
	m := inUse(256, 2)
	m.Mmu = api.Mmu{On: true, Status: 3, Addr: 0xE0F1}
	m.Mmu.Pages[1][7] = api.Page{Base: 0xABC, Length: 128, Access: 2, Written: true}
	for _, c := range []struct{ offset, v int }{
		{0, 7}, {2, 0xE0F1}, {16, 0}, {18, 0}, {76, 0xABC}, {78, 0x8280},
		{256, 192}, {512, 192}, {514, 65 + 32768}, {516, 64}, {518, 0}, {520, 192}, {522, 66}, {524, 64}, {526, 0},
		{768, 32768 + 64 + 2}, {770, 70}, {772, 20}, {774, 1}, {800, 32768 + 512 + 256 + 64 + 4}, {802, 9}, {804, 31},
	} {
		for _, part := range []struct {
			phys int
			byte bool
			v    int
		}{{ioBase + c.offset, false, c.v}, {ioBase + c.offset, true, c.v & 255}, {ioBase + c.offset + 1, true, c.v >> 8}} {
			if _, v, trap := bus.Read(m, part.phys, part.byte); v != part.v || trap != api.TrNone {
				t.Errorf("Read(%d, %v): %d, trap %d, want %d", c.offset, part.byte, v, trap, part.v)
			}
		}
		expectRead(t, m, ioBase+c.offset+1, false, m, 0, api.TrBus)
	}
	for _, offset := range []int{4, 6, 14, 80, 82, 128, 254, 258, 260, 510, 528, 530, 544, 766, 776, 798, 806, 808, 1024, 4096, 8190} {
		for _, byte := range bools {
			expectRead(t, m, ioBase+offset, byte, m, 0, api.TrBus)
			expectRead(t, m, ioBase+offset+1, byte, m, 0, api.TrBus)
		}
	}
}

func TestReadOfAReceiver(t *testing.T) {
	for i := range 4 {
		m := inUse(256, 4)
		m.Lines[i].Overrun = true
		for _, c := range []struct {
			offset        int
			byte          bool
			first, second int
		}{{0, false, 65 + i + 32768, 65 + i}, {0, true, 65 + i, 65 + i}, {1, true, 128, 0}} {
			want := kept(m)
			want.Lines[i].RxReady, want.Lines[i].Overrun = false, false
			phys := ioBase + 514 + 8*i + c.offset
			expectRead(t, m, phys, c.byte, want, c.first, api.TrNone)
			// Once it has been read there is no overrun any more, and nothing changes.
			expectRead(t, want, phys, c.byte, want, c.second, api.TrNone)
		}
		// A word at an odd address is no read of the register.
		expectRead(t, m, ioBase+515+8*i, false, m, 0, api.TrBus)
	}
}

// P18.3: Write.

var values = slices.Concat([]int{0, 1, 2, 3, 5, 64, 65, 66, 127, 128, 129, 191, 192, 193, 254, 255, 256, 257, 320, 511, 512, 513, 4095, 4096, 0x1234, 32767, 32768, 32769, 65534, 65535, 65536, 65537, -1, -2, -64, -128, -192}, farInts)

// writeMemory returns the machine after a write to memory.
func writeMemory(m api.Machine, addr int, byte bool, v int) (api.Machine, api.Trap) {
	if addr >= 2*len(m.Mem) || addr%2 == 1 && !byte {
		return m, api.TrBus
	}
	m = kept(m)
	w := m.Mem[addr/2]
	switch {
	case !byte:
		w = remainder(v, 65536)
	case addr%2 == 1:
		w = w%256 + 256*remainder(v, 256)
	default:
		w = w - w%256 + remainder(v, 256)
	}
	m.Mem[addr/2] = w
	m.Bad = slices.DeleteFunc(m.Bad, func(b int) bool { return b == addr-addr%2 })
	return m, api.TrNone
}

func TestWriteOfMemory(t *testing.T) {
	for _, bad := range [][]int{nil, {0}, {2}, {254}, {10, 12, 100}, {0, 2, 4, 128, 252, 254}} {
		m := inUse(256, 2)
		m.Bad = bad
		for addr := range 330 {
			for _, byte := range bools {
				for i, v := range []int{0, 255, 0xA5C3, -1, 1 << 40} {
					lap := laps[(addr+i)%len(laps)]
					want, trap := writeMemory(m, addr, byte, v)
					expectWrite(t, m, lap+addr, byte, v, want, trap)
				}
			}
		}
	}
}

func TestWriteOfAllValues(t *testing.T) {
	m := quiet(256, 1)
	m.Bad = []int{10}
	for _, addr := range []int{10, 11, 254, 255, 256} {
		for _, byte := range bools {
			for _, v := range values {
				want, trap := writeMemory(m, addr, byte, v)
				expectWrite(t, m, addr, byte, v, want, trap)
			}
		}
	}
}

func TestWriteBehindMemory(t *testing.T) {
	for _, size := range []int{256, 320, 8192, 32704, 32768} {
		m := inUse(size, 1)
		for _, addr := range []int{size - 4, size - 3, size - 2, size - 1, size, size + 1, size + 2, size + 63, size + 64, 2 * size, 32766, 32767, 32768, 32769, 65535, 65536, 65536 + 10, 131072, 131072 + 10, ioBase - 8192, ioBase - 2, ioBase - 1} {
			for _, byte := range bools {
				want, trap := writeMemory(m, addr, byte, 0x1234)
				expectWrite(t, m, addr, byte, 0x1234, want, trap)
				expectWrite(t, m, addr-physBytes, byte, 0x1234, want, trap)
			}
		}
	}
	m := quiet(256, 4)
	for addr := 256; addr < ioBase; addr += 1 + addr%5 {
		expectWrite(t, m, addr, addr%3 == 0, 5, m, api.TrBus)
	}
}

// writeRegister returns the machine after a write to the I/O page.
func writeRegister(m api.Machine, offset int, byte bool, v int) (api.Machine, api.Trap) {
	r, ok := registerAt(len(m.Lines), offset)
	if !ok {
		return m, api.TrBus
	}
	m = kept(m)
	if byte {
		r.write(&m, remainder(v, 256))
	} else {
		r.write(&m, remainder(v, 65536))
	}
	return m, api.TrNone
}

func TestWriteOfRegisters(t *testing.T) {
	for _, lines := range []int{0, 1, 4} {
		for _, m := range []api.Machine{quiet(256, lines), inUse(256, lines), requesting(256, lines)} {
			for _, r := range registersOf(lines) {
				for i, v := range values {
					for _, byte := range bools {
						lap := laps[i%len(laps)]
						want, trap := writeRegister(m, r.offset, byte, v)
						expectWrite(t, m, lap+ioBase+r.offset, byte, v, want, trap)
						expectWrite(t, m, lap+ioBase+r.offset+1, byte, v, m, api.TrBus)
					}
				}
			}
		}
	}
}

func TestWriteOfTheWholePage(t *testing.T) {
	for lines := range 5 {
		for _, m := range []api.Machine{quiet(256, lines), requesting(256, lines)} {
			found := 0
			for offset := range 8192 {
				for _, byte := range bools {
					want, trap := writeRegister(m, offset, byte, 0x1D3)
					expectWrite(t, m, ioBase+offset, byte, 0x1D3, want, trap)
					if trap == api.TrNone {
						found++
					}
				}
			}
			if want := 2 * (34 + 1 + 4*lines + 4 + 3); found != want {
				t.Errorf("%d lines: %d writes without a trap, want %d", lines, found, want)
			}
		}
	}
}

func TestWriteOfRegistersByHand(t *testing.T) {
	for _, c := range []struct {
		offset int
		byte   bool
		v      int
		change func(m *api.Machine)
	}{
		{0, false, 7, func(m *api.Machine) { m.Mmu.On, m.Mmu.Status = true, 3 }},
		{0, false, 65536 + 4, func(m *api.Machine) { m.Mmu.Status = 2 }},
		{0, true, 256 + 4, func(m *api.Machine) { m.Mmu.Status = 2 }},
		{2, false, 77, func(m *api.Machine) {}},
		{16, false, 0xFABC, func(m *api.Machine) { m.Mmu.Pages[0][0].Base = 0xABC }},
		{16, true, 0xFABC, func(m *api.Machine) { m.Mmu.Pages[0][0].Base = 0xBC }},
		{18, false, 0x0142, func(m *api.Machine) { m.Mmu.Pages[0][0].Length, m.Mmu.Pages[0][0].Access = 66, 1 }},
		{18, true, 0x0142, func(m *api.Machine) { m.Mmu.Pages[0][0].Length = 66 }},
		{44, false, 9, func(m *api.Machine) { m.Mmu.Pages[0][7].Base = 9 }},
		{48, false, 10, func(m *api.Machine) { m.Mmu.Pages[1][0].Base = 10 }},
		{78, false, -1, func(m *api.Machine) { m.Mmu.Pages[1][7].Length, m.Mmu.Pages[1][7].Access = 128, 2 }},
		{256, true, 64, func(m *api.Machine) { m.Clock.Enable = true }},
		{256, false, 0xFF40, func(m *api.Machine) { m.Clock.Enable = true }},
		{512, false, 64, func(m *api.Machine) { m.Lines[0].RxEnable = true }},
		{514, false, 64, func(m *api.Machine) {}},
		{516, true, 0x1FF, func(m *api.Machine) { m.Lines[0].TxEnable = true }},
		{518, false, 0x141, func(m *api.Machine) {
			m.Lines[0].TxData, m.Lines[0].TxLeft, m.Lines[0].TxReady = 0x41, 4, false
		}},
		{526, true, -1, func(m *api.Machine) {
			m.Lines[1].TxData, m.Lines[1].TxLeft, m.Lines[1].TxReady = 255, 4, false
		}},
		{768, false, 64 + 2, func(m *api.Machine) { m.Disk.Enable = true }},
		{770, false, -1, func(m *api.Machine) { m.Disk.Words = 65535 }},
		{770, true, -1, func(m *api.Machine) { m.Disk.Words = 255 }},
		{772, false, 0x1235, func(m *api.Machine) { m.Disk.Addr = 0x1234 }},
		{772, true, 0x1235, func(m *api.Machine) { m.Disk.Addr = 0x34 }},
		{774, false, 1 << 40, func(m *api.Machine) { m.Disk.Start = 0 }},
		{800, false, 5, func(m *api.Machine) { m.Tape.Command, m.Tape.Left, m.Tape.Ready = 2, 16, false }},
		{802, false, 0x1235, func(m *api.Machine) { m.Tape.Count = 0x1235 }},
		{802, true, 0x1235, func(m *api.Machine) { m.Tape.Count = 0x35 }},
		{804, false, 65537, func(m *api.Machine) { m.Tape.Addr = 1 }},
	} {
		m := quiet(256, 2)
		want := kept(m)
		c.change(&want)
		expectWrite(t, m, ioBase+c.offset, c.byte, c.v, want, api.TrNone)
		expectWrite(t, m, ioBase+c.offset+1, c.byte, c.v, m, api.TrBus)
	}
}

func TestWriteOfABusyDevice(t *testing.T) {
	// What is in progress needs the registers as they are; only interrupts can be enabled and disabled.
	m := inUse(256, 1)
	m.Lines[0].TxLeft = 2
	for _, offset := range []int{518, 770, 772, 774, 802, 804} {
		for _, byte := range bools {
			expectWrite(t, m, ioBase+offset, byte, 5, m, api.TrNone)
		}
	}
	want := kept(m)
	want.Disk.Enable = false
	expectWrite(t, m, ioBase+768, false, 3, want, api.TrNone)
	want = kept(m)
	want.Tape.Enable = false
	expectWrite(t, m, ioBase+800, true, 11, want, api.TrNone)
}

// P18.6: separation.

func TestRegistersAndMemoryAreSeparate(t *testing.T) {
	for lines := range 5 {
		for _, m := range machines(lines) {
			for _, offset := range slices.Concat(upTo(0, 820), []int{2000, 8190, 8191}) {
				for _, byte := range bools {
					a, _, _ := bus.Read(m, ioBase+offset, byte)
					b, _ := bus.Write(m, ioBase+offset, byte, 0x1C7)
					if !slices.Equal(a.Mem, m.Mem) || !slices.Equal(a.Bad, m.Bad) || !slices.Equal(b.Mem, m.Mem) || !slices.Equal(b.Bad, m.Bad) {
						t.Fatalf("the register at %d changes memory", offset)
					}
				}
			}
		}
	}
}

func TestWrittenIsRead(t *testing.T) {
	m := inUse(512, 2)
	for i, addr := range []int{0, 6, 7, 41, 300, 509, 510, 511} {
		byte := addr%2 == 1
		for _, v := range []int{0, 1, 0x5A, 255} {
			x, trap := bus.Write(m, addr, byte, v)
			if trap != api.TrNone {
				t.Fatalf("Write at %d: trap %d", addr, trap)
			}
			_, got, trap := bus.Read(x, addr+laps[i], byte)
			if got != v || trap != api.TrNone {
				t.Errorf("%d is read at %d after %d was written, trap %d", got, addr, v, trap)
			}
			// All other words are read as before.
			for other := 0; other < 512; other += 2 {
				if other == addr-addr%2 {
					continue
				}
				_, a, f := bus.Read(m, other, false)
				_, b, g := bus.Read(x, other, false)
				if a != b || f != g {
					t.Fatalf("writing at %d changes %d", addr, other)
				}
			}
		}
	}
}

// The chapter's examples.

func TestExamples(t *testing.T) {
	m := quiet(256, 1)
	x, trap := bus.Write(m, 10, false, 0x1234)
	if trap != api.TrNone {
		t.Error("Write of 0x1234")
	}
	expectRead(t, x, 11, true, x, 0x12, api.TrNone)
	expectRead(t, x, 256, false, x, 0, api.TrBus)
	expectRead(t, x, 11, false, x, 0, api.TrBus)

	c := quiet(256, 1)
	c.Clock.Enable, c.Clock.Ready = true, true
	expectRead(t, c, ioBase+256, false, c, 192, api.TrNone)
	expectRead(t, c, ioBase+257, true, c, 0, api.TrNone)
	want := kept(m)
	want.Clock.Enable = true
	expectWrite(t, m, ioBase+256, true, 64, want, api.TrNone)
	expectWrite(t, m, ioBase+257, true, 64, m, api.TrBus)
}
