package cpu_test

import (
	"math"
	"slices"
	"testing"

	"emulator/api"
	"emulator/cpu"
)

// P19.2: Load, Store.

// expectedLoad returns what a read gives by the model.
func expectedLoad(m api.Machine, addr int, byte bool) (api.Machine, int, api.Trap) {
	x, v := &twin{m: kept(m)}, 0
	trap := attempt(func() { v = x.access(visit{x.mode(), addr, byte, false}, 0) })
	return x.m, v, trap
}

// expectedStore returns what a write gives by the model.
func expectedStore(m api.Machine, addr int, byte bool, v int) (api.Machine, api.Trap) {
	x := &twin{m: kept(m)}
	if v = remainder(v, 65536); byte {
		v %= 256
	}
	trap := attempt(func() { x.access(visit{x.mode(), addr, byte, true}, v) })
	return x.m, trap
}

// load loads and compares the results with given ones and with those of the model.
func load(t *testing.T, m api.Machine, addr int, byte bool, want api.Machine, v int, trap api.Trap) {
	t.Helper()
	x, got, stopped := cpu.Load(m, addr, byte)
	if !same(x, want) || got != v || stopped != trap {
		t.Errorf("Load at %d (byte %v, PSW %#x): %d, trap %d, want %d, trap %d, differences: %s", addr, byte, m.Cpu.PSW, got, stopped, v, trap, differences(x, want))
	}
	if y, w, also := expectedLoad(m, addr, byte); !same(y, want) || w != v || also != trap {
		t.Errorf("the model at %d (byte %v): %d, trap %d, want %d, trap %d, differences: %s", addr, byte, w, also, v, trap, differences(y, want))
	}
}

// store stores and compares the results with given ones and with those of the model.
func store(t *testing.T, m api.Machine, addr int, byte bool, v int, want api.Machine, trap api.Trap) {
	t.Helper()
	x, stopped := cpu.Store(m, addr, byte, v)
	if !same(x, want) || stopped != trap {
		t.Errorf("Store of %d at %d (byte %v, PSW %#x): trap %d, want %d, differences: %s", v, addr, byte, m.Cpu.PSW, stopped, trap, differences(x, want))
	}
	if y, also := expectedStore(m, addr, byte, v); !same(y, want) || also != trap {
		t.Errorf("the model of %d at %d (byte %v): trap %d, want %d, differences: %s", v, addr, byte, also, trap, differences(y, want))
	}
}

// sameAddress returns numbers that are an address modulo 65536.
func sameAddress(addr int) []int {
	return []int{addr, addr - 65536, addr + 65536, addr - 1<<40, addr + 1<<62, addr + math.MinInt}
}

func TestAccessWithoutManagement(t *testing.T) {
	for _, psw := range []int{0, 0x8000, 0x4000, 0xC0FF} {
		m := with(begun(), "w100=0x3412 w102=0xFFFF w1022=0xABCD")
		m.Bad = []int{200}
		m.Mem[100] = 0x7777
		m.Cpu.PSW = psw
		for _, addr := range sameAddress(100) {
			load(t, m, addr, false, m, 0x3412, api.TrNone)
			load(t, m, addr, true, m, 0x12, api.TrNone)
			load(t, m, addr+1, true, m, 0x34, api.TrNone)
			load(t, m, addr+1, false, m, 0, api.TrBus)
			store(t, m, addr, false, 0x5678, with(m, "w100=0x5678"), api.TrNone)
			store(t, m, addr, true, 0x5678, with(m, "w100=0x3478"), api.TrNone)
			store(t, m, addr+1, true, 0x5678, with(m, "w100=0x7812"), api.TrNone)
			store(t, m, addr+1, false, 0x5678, m, api.TrBus)
		}
		for _, addr := range sameAddress(200) {
			load(t, m, addr, false, m, 0, api.TrParity)
			load(t, m, addr, true, m, 0, api.TrParity)
			load(t, m, addr+1, true, m, 0, api.TrParity)
			load(t, m, addr+1, false, m, 0, api.TrBus)
			repaired := kept(m)
			repaired.Bad = nil
			store(t, m, addr, false, 7, with(repaired, "w200=7"), api.TrNone)
			store(t, m, addr, true, 7, with(repaired, "w200=0x7707"), api.TrNone)
			store(t, m, addr+1, true, 7, with(repaired, "w200=0x0777"), api.TrNone)
			store(t, m, addr+1, false, 7, m, api.TrBus)
		}
		load(t, m, 1022, false, m, 0xABCD, api.TrNone)
		load(t, m, 1023, true, m, 0xAB, api.TrNone)
		for _, addr := range []int{1024, 1026, 5000, 32768, 0xDFFE, 0xE004, 0xE0FE, 0xFFFE, -2} {
			for _, byte := range bools {
				load(t, m, addr, byte, m, 0, api.TrBus)
				load(t, m, addr+1, byte, m, 0, api.TrBus)
				store(t, m, addr, byte, 0, m, api.TrBus)
				store(t, m, addr+1, byte, 0, m, api.TrBus)
			}
		}
	}
}

func TestAccessToRegisters(t *testing.T) {
	for _, psw := range []int{0, 0x8000} {
		m := begun()
		m.Cpu.PSW = psw
		m.Clock.Enable, m.Clock.Ready = true, true
		m.Lines[0].RxReady, m.Lines[0].Overrun, m.Lines[0].RxData = true, true, 65
		for _, addr := range sameAddress(ioPage + 256) {
			load(t, m, addr, false, m, 192, api.TrNone)
			load(t, m, addr, true, m, 192, api.TrNone)
			load(t, m, addr+1, true, m, 0, api.TrNone)
			load(t, m, addr+1, false, m, 0, api.TrBus)
			disabled := kept(m)
			disabled.Clock.Enable = false
			store(t, m, addr, false, 128, disabled, api.TrNone)
			store(t, m, addr, true, 0x1280, disabled, api.TrNone)
			store(t, m, addr+1, true, 0x80, m, api.TrBus)
			store(t, m, addr+1, false, 0x80, m, api.TrBus)
		}
		read := kept(m)
		read.Lines[0].RxReady, read.Lines[0].Overrun = false, false
		load(t, m, ioPage+514, false, read, 65+32768, api.TrNone)
		load(t, m, ioPage+514, true, read, 65, api.TrNone)
		load(t, m, ioPage+515, true, read, 128, api.TrNone)
		load(t, m, ioPage+515, false, m, 0, api.TrBus)
		sent := kept(m)
		sent.Lines[0].TxReady, sent.Lines[0].TxData, sent.Lines[0].TxLeft = false, 66, 4
		store(t, m, ioPage+518, false, 0xFF42, sent, api.TrNone)
		store(t, m, ioPage+518, true, -190, sent, api.TrNone)
		on := kept(m)
		on.Mmu.On, on.Mmu.Status = true, 1
		store(t, m, ioPage, false, 3, on, api.TrNone)
	}
}

// paged returns a machine of 4096 bytes with memory management. In both modes page 0 may be written and page 1 only read, page 2 not be used; page 3 has two blocks, page 4 lies behind memory, page 5 is that of the registers. The addresses of user mode begin 512 bytes higher in memory.
func paged(psw int) api.Machine {
	m := blank(4096, 1)
	for i := range m.Mem {
		m.Mem[i] = 2*i + 1
	}
	m.Mmu.On = true
	for mode := range 2 {
		at := 8 * mode
		m.Mmu.Pages[mode] = [8]api.Page{
			{Base: at, Length: 8, Access: 2}, {Base: 16 + at, Length: 8, Access: 1}, {Base: 32 + at, Length: 8, Access: 0},
			{Base: 48 + at, Length: 2, Access: 2}, {Base: 64 + at, Length: 128, Access: 2}, {Base: ioBase / 64, Length: 128, Access: 2},
		}
	}
	m.Cpu = api.Cpu{SP: [2]int{8192 + 100, 8192 + 100}, PC: 64, PSW: psw}
	return m
}

// faulty returns the machine whose memory management unit has recorded a fault.
func faulty(m api.Machine, fault, addr int) api.Machine {
	m = kept(m)
	m.Mmu.Status, m.Mmu.Addr = fault, addr
	return m
}

// written returns the machine in which a page has been written.
func written(m api.Machine, page int) api.Machine {
	m = kept(m)
	m.Mmu.Pages[m.Cpu.PSW>>15][page].Written = true
	return m
}

func TestAccessWithManagement(t *testing.T) {
	for _, psw := range []int{0, 0x8000, 0x4000, 0xC000} {
		m := paged(psw)
		at := psw >> 15 * 512
		m.Bad = []int{at + 20, 1024 + at + 20}
		for _, addr := range sameAddress(10) {
			load(t, m, addr, false, m, at+11, api.TrNone)
			load(t, m, addr+1, true, m, at/256, api.TrNone)
			load(t, m, addr+8192, false, m, 1024+at+11, api.TrNone)
			changed := written(m, 0)
			changed.Mem[(at+10)/2] = 7
			store(t, m, addr, false, 7, changed, api.TrNone)
			changed.Mem[(at+10)/2] = at/256*256 + 7
			store(t, m, addr, true, 0x1207, changed, api.TrNone)
		}
		for _, byte := range bools {
			load(t, m, 20, byte, m, 0, api.TrParity)
			load(t, m, 8192+20, byte, m, 0, api.TrParity)
			store(t, m, 8192+20, byte, 7, faulty(m, 3, 8212), api.TrMmu)
			load(t, m, 512, byte, faulty(m, 2, 512), 0, api.TrMmu)
			store(t, m, 512, byte, 7, faulty(m, 2, 512), api.TrMmu)
			load(t, m, 16384, byte, faulty(m, 1, 16384), 0, api.TrMmu)
			store(t, m, 16384+4, byte, 7, faulty(m, 1, 16388), api.TrMmu)
			load(t, m, 24576+128, byte, faulty(m, 2, 24704), 0, api.TrMmu)
			store(t, m, 24576+128-65536, byte, 7, faulty(m, 2, 24704), api.TrMmu)
			// Without memory behind the page, the fault is that of the bus, after the page has been marked.
			load(t, m, 32768, byte, m, 0, api.TrBus)
			store(t, m, 32768, byte, 7, written(m, 4), api.TrBus)
			load(t, m, 57344, byte, faulty(m, 1, 57344), 0, api.TrMmu)
			store(t, m, -2, byte, 7, faulty(m, 1, 65534), api.TrMmu)
			load(t, m, 40960+4, byte, m, 0, api.TrBus)
			store(t, m, 40960+4, byte, 0, written(m, 5), api.TrBus)
		}
		// A word at an odd address is not even seen by memory management.
		for _, addr := range []int{11, 21, 8193, 513, 16385, 24577, 24705, 32769, 40961, 57345, -1} {
			load(t, m, addr, false, m, 0, api.TrBus)
			store(t, m, addr, false, 7, m, api.TrBus)
		}
		load(t, m, 16385, true, faulty(m, 1, 16385), 0, api.TrMmu)
		store(t, m, 8193, true, 7, faulty(m, 3, 8193), api.TrMmu)
		// The byte of a register at an odd address is refused by the bus, after the page has been marked.
		store(t, m, 40960+257, true, 64, written(m, 5), api.TrBus)
		load(t, m, 40960+257, true, m, 0, api.TrNone)
		enabled := written(m, 5)
		enabled.Clock.Enable = true
		store(t, m, 40960+256, false, 64, enabled, api.TrNone)
	}
}

// The unit is first asked for the address and then written: the descriptor of the page itself is not marked in the end.
func TestWritingThePageThatIsUsed(t *testing.T) {
	m := paged(0)
	want := kept(m)
	want.Mmu.Pages[0][5] = api.Page{Base: ioBase / 64, Length: 3, Access: 1}
	store(t, m, 40960+18+20, false, 256+3, want, api.TrNone)
	want = written(m, 5)
	want.Mmu.On = false
	store(t, m, 40960, false, 0, want, api.TrNone)
}

func TestFaultsReplaceOlderOnes(t *testing.T) {
	m := faulty(paged(0x8000), 3, 9999)
	load(t, m, 10, false, m, 512+11, api.TrNone)
	load(t, m, 16384, false, faulty(m, 1, 16384), 0, api.TrMmu)
	store(t, m, 600, true, 1, faulty(m, 2, 600), api.TrMmu)
}

func TestEveryAddress(t *testing.T) {
	small := begun()
	small.Bad = []int{0, 64, 510, 1022}
	kinds := map[api.Trap]int{}
	for _, m := range []api.Machine{small, paged(0), paged(0x8000), inUse(256, 4)} {
		for addr := -8; addr < 65536+8; addr++ {
			// Most of the pages look the same everywhere.
			if addr%8192 > 1100 && addr%97 != 0 {
				continue
			}
			for _, byte := range bools {
				want, v, trap := expectedLoad(m, addr, byte)
				x, got, stopped := cpu.Load(m, addr, byte)
				if !same(x, want) || got != v || stopped != trap {
					t.Fatalf("Load at %d (byte %v): %d, trap %d, want %d, trap %d, differences: %s", addr, byte, got, stopped, v, trap, differences(x, want))
				}
				kinds[trap]++
				want, trap = expectedStore(m, addr, byte, addr*7)
				x, stopped = cpu.Store(m, addr, byte, addr*7)
				if !same(x, want) || stopped != trap {
					t.Fatalf("Store at %d (byte %v): trap %d, want %d, differences: %s", addr, byte, stopped, trap, differences(x, want))
				}
				kinds[trap]++
			}
		}
	}
	for _, trap := range []api.Trap{api.TrNone, api.TrBus, api.TrMmu, api.TrParity} {
		if kinds[trap] < 16 {
			t.Errorf("the trap %d occurs %d times", trap, kinds[trap])
		}
	}
}

func TestStoredValues(t *testing.T) {
	for _, v := range slices.Concat(upTo(-3, 3), upTo(254, 258), upTo(65534, 65538), farInts) {
		m := with(begun(), "w100=0x5AA5")
		want := kept(m)
		want.Mem[50] = remainder(v, 65536)
		store(t, m, 100, false, v, want, api.TrNone)
		want.Mem[50] = 0x5A00 + remainder(v, 256)
		store(t, m, 100, true, v, want, api.TrNone)
		want.Mem[50] = 256*remainder(v, 256) + 0xA5
		store(t, m, 101, true, v, want, api.TrNone)
	}
	for _, addr := range farInts {
		m := begun()
		for _, byte := range bools {
			want, v, trap := expectedLoad(m, addr, byte)
			load(t, m, addr, byte, want, v, trap)
			want, trap = expectedStore(m, addr, byte, 7)
			store(t, m, addr, byte, 7, want, trap)
		}
	}
}
