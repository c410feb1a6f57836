package cpu_test

import (
	"fmt"
	"slices"
	"testing"

	"emulator/api"
	"emulator/cpu"
)

// P19.5: Enter.

func TestEnterByHand(t *testing.T) {
	for _, k := range []struct{ before, after string }{
		{"w4=100 w6=0x00E0 ps=5", "pc=100 ps=0xE0 sp=508 w510=5 w508=64"},
		{"w4=101 w6=0xFFFF ps=0x401F", "pc=101 ps=0x80FF usp=764 w766=0x401F w764=64"},
		{"w4=100 w6=0x0005 ps=0xC0FF", "pc=100 ps=0x4005 ksp=508 w510=0xC0FF w508=64"},
		{"w4=0 w6=0x8000 ps=0x8010", "pc=0 ps=0xC000 usp=764 w766=0x8010 w764=64"},
		{"w4=65535 w6=0x4000 ps=0 pc=65535", "pc=65535 ps=0 ksp=508 w508=65535"},
		{"w4=100 w6=0x7F1F ps=0x4000 ksp=4", "pc=100 ps=0x1F ksp=0 w2=0x4000 w0=64"},
	} {
		m := with(begun(), k.before)
		for _, ended := range bools {
			m.Halted, m.Waiting = ended, ended
			want := with(m, k.after)
			if x := enter(t, m, 4); !same(x, want) {
				t.Errorf("%s: differences: %s, %+v", k.before, differences(x, want), x.Cpu)
			}
		}
	}
}

func TestEnterThroughEveryVector(t *testing.T) {
	m := blank(1024, 1)
	for i := range m.Mem {
		m.Mem[i] = i*40503%65536&0x40FF + i%8*256
	}
	m.Cpu = api.Cpu{R: [6]int{1, 2, 3, 4, 5, 6}, SP: [2]int{800, 900}, PC: 64}
	entered := 0
	for _, psw := range []int{0, 0x8005, 0x40E0, 0xC01F} {
		m.Cpu.PSW = psw
		for vector := 0; vector <= 252; vector++ {
			x := enter(t, m, vector)
			if vector%2 == 1 {
				want := kept(m)
				want.Halted = true
				if !same(x, want) {
					t.Errorf("vector %d: differences: %s", vector, differences(x, want))
				}
				continue
			}
			entered++
			status := m.Mem[vector/2+1]
			want := with(m, fmt.Sprintf("pc=%d ps=%d w798=%d w796=64 ksp=796", m.Mem[vector/2], status&0xFF+psw>>15*0x4000, psw))
			if !same(x, want) {
				t.Errorf("vector %d: differences: %s", vector, differences(x, want))
			}
			for _, v := range sameAddress(vector) {
				if y := cpu.Enter(m, v); !same(x, y) {
					t.Errorf("vector %d: differences: %s", v, differences(x, y))
				}
			}
		}
		for _, vector := range slices.Concat(upTo(-300, -1), farInts, []int{1020, 1022, 1024, 5000, 32768, 0xDFFE, 0xE000, 0xE100, 0xE202, 0xFFFC, 0xFFFE, 65535}) {
			enter(t, m, vector)
		}
	}
	if entered != 4*127 {
		t.Errorf("entered %d times", entered)
	}
}

// halts enters a trap that halts the machine.
func halts(t *testing.T, m api.Machine, vector int) {
	t.Helper()
	want := kept(m)
	want.Halted = true
	if x := enter(t, m, vector); !same(x, want) {
		t.Errorf("vector %d: differences: %s, %+v", vector, differences(x, want), x.Cpu)
	}
}

func TestEnterWithTraps(t *testing.T) {
	for _, psw := range []int{0, 0x8005, 0x40E0, 0xC01F} {
		m := with(begun(), "w4=100 w6=0x00E0 w12=100 w14=0x80E0")
		m.Cpu.PSW = psw
		for _, vector := range []int{5, 7, 1, 65535, -1, 1024, 1022, 0xDFFE, 0xDFFC, 40000, 0xFFFE, -4} {
			halts(t, m, vector)
		}
		for _, bad := range []int{4, 6} {
			x := kept(m)
			x.Bad = []int{bad}
			halts(t, x, 4)
			x.Halted, x.Waiting = true, true
			halts(t, x, 4)
			if enter(t, x, 12); !same(cpu.Enter(x, 4), x) {
				t.Error("a halted machine is another one")
			}
		}
		for _, sp := range []int{0, 1, 511, 1026, 1028, 5000, 65535, 2} {
			x := kept(m)
			x.Cpu.SP[kernel] = sp
			halts(t, x, 4)
			if y := enter(t, x, 12); y.Halted {
				t.Errorf("halted though the stack of user mode is good")
			}
			x = kept(m)
			x.Cpu.SP[user] = sp
			halts(t, x, 12)
			if y := enter(t, x, 4); y.Halted {
				t.Errorf("halted though the stack of kernel mode is good")
			}
		}
		x := kept(m)
		x.Cpu.SP[kernel] = 1024
		if y := enter(t, x, 4); y.Halted || y.Cpu.SP[kernel] != 1020 {
			t.Errorf("the stack at the end of memory: %+v", y.Cpu)
		}
	}
}

func TestEnterWithManagement(t *testing.T) {
	for _, psw := range []int{0, 0x8005, 0x40E0, 0xC01F} {
		m := paged(psw)
		m.Cpu.SP = [2]int{100, 100}
		m.Mem[2], m.Mem[3] = 200, 0x00E0
		m.Mem[6], m.Mem[7] = 201, 0x80E0
		// The vector is in the space of kernel mode, the stack in that of the new mode.
		want := with(m, fmt.Sprintf("pc=200 ps=%d ksp=96 w98=%d w96=64", 0xE0+psw>>15*0x4000, psw))
		want.Mmu.Pages[kernel][0].Written = true
		if x := enter(t, m, 4); !same(x, want) {
			t.Errorf("into kernel mode: differences: %s", differences(x, want))
		}
		want = with(m, fmt.Sprintf("pc=201 ps=%d usp=96 w610=%d w608=64", 0x80E0+psw>>15*0x4000, psw))
		want.Mmu.Pages[user][0].Written = true
		if x := enter(t, m, 12); !same(x, want) {
			t.Errorf("into user mode: differences: %s", differences(x, want))
		}
		// Not even the fault is recorded, or the page marked, if the machine halts.
		for _, sp := range []int{8292, 16484, 24704 + 4, 32868, 514, 516, 2, 57344} {
			x := kept(m)
			x.Cpu.SP = [2]int{sp, 100}
			halts(t, x, 4)
			x.Cpu.SP = [2]int{100, sp}
			halts(t, x, 12)
		}
		for _, vector := range []int{16384, 512, 510, 24704, 32768, 57344, -2} {
			halts(t, m, vector)
		}
		x := kept(m)
		x.Mmu.Pages[kernel][0].Access = 0
		halts(t, x, 12)
		x = kept(m)
		x.Mmu.Pages[kernel][0].Access = 1
		halts(t, x, 4)
		if y := enter(t, x, 12); y.Halted {
			t.Error("halted though kernel mode only reads")
		}
		x = kept(m)
		x.Mmu.Pages[user][0].Access = 1
		halts(t, x, 12)
		if y := enter(t, x, 4); y.Halted {
			t.Error("halted though user mode is not used")
		}
	}
}

// A vector may be in registers; what reading them does is undone only if the machine halts.
func TestEnterThroughRegisters(t *testing.T) {
	m := with(begun(), "rx=65")
	x := enter(t, m, ioPage+514)
	want := with(m, "pc=65 ps=0x80 sp=508 w510=0 w508=64")
	want.Lines[0].RxReady = false
	if !same(x, want) {
		t.Errorf("differences: %s, %+v", differences(x, want), x.Cpu)
	}
	m.Cpu.SP[kernel] = 1
	halts(t, m, ioPage+514)
}

func TestRandomEntries(t *testing.T) {
	next := numbers(8)
	entered, halted := 0, 0
	for range 6000 {
		m := scene(next)
		vector := address(next)
		if next(4) == 0 {
			vector += 65536 * (next(9) - 4)
		}
		x := enter(t, m, vector)
		if !cpu.Right(x.Cpu) {
			t.Fatalf("not right: %+v", x.Cpu)
		}
		if x.Cpu == m.Cpu {
			halted++
		} else {
			entered++
		}
	}
	if entered < 1000 || halted < 1000 {
		t.Errorf("%d entered, %d halted", entered, halted)
	}
}

// P19.8: rti after Enter.

func TestReturnAfterEntry(t *testing.T) {
	next := numbers(9)
	returned := map[int]int{}
	for range 20000 {
		m := scene(next)
		m.Halted = false
		if next(2) == 0 {
			m.Bad, m.Cpu.SP = nil, [2]int{700, 900}
		}
		x := enter(t, m, 4*next(64))
		if x.Halted {
			continue
		}
		y, trap := execute(t, x, []int{2})
		if trap != api.TrNone {
			// The word may have been pushed to a register, or where only writing is possible.
			continue
		}
		from, into := m.Cpu.PSW>>15, x.Cpu.PSW>>15
		sp := m.Cpu.SP[into]
		if sp >= ioPage || m.Mmu.On && pointsOut(m, into, sp) {
			continue
		}
		returned[2*from+into]++
		if y.Cpu.PC != m.Cpu.PC || y.Cpu.R != m.Cpu.R || y.Cpu.SP != m.Cpu.SP {
			t.Fatalf("from mode %d into mode %d: %+v, want %+v", from, into, y.Cpu, m.Cpu)
		}
		if into == kernel && y.Cpu.PSW != m.Cpu.PSW {
			t.Fatalf("the status word is %#x, want %#x", y.Cpu.PSW, m.Cpu.PSW)
		}
		if into == user && (y.Cpu.PSW>>5 != x.Cpu.PSW>>5 || y.Cpu.PSW%32 != m.Cpu.PSW%32) {
			t.Fatalf("the status word is %#x, was %#x, and %#x before", y.Cpu.PSW, x.Cpu.PSW, m.Cpu.PSW)
		}
	}
	for k := range 4 {
		if returned[k] < 100 {
			t.Errorf("%d returns from mode %d into mode %d", returned[k], k/2, k%2)
		}
	}
}

// pointsOut tells whether the two words below a stack pointer of a mode may be registers, or not two words of one page.
func pointsOut(m api.Machine, mode, sp int) bool {
	low := remainder(sp-4, 65536)
	p := m.Mmu.Pages[mode][low/8192]
	return low%8192 > 8188 || 64*(p.Base+p.Length) > 2048
}

func TestReturnAfterEntryByHand(t *testing.T) {
	for _, psw := range []int{0, 0x401F, 0x00E5, 0x40FF} {
		m := with(begun(), fmt.Sprintf("w4=200 w6=0x00E0 pc=333 ps=%d r0=9", psw))
		x := enter(t, m, 4)
		y, trap := execute(t, x, []int{2})
		if trap != api.TrNone || y.Cpu != m.Cpu {
			t.Errorf("status word %#x: trap %d, %+v", psw, trap, y.Cpu)
		}
	}
	m := with(begun(), "w4=200 w6=0x00E0 pc=333 ps=0xC005")
	x := enter(t, m, 4)
	if y, trap := execute(t, x, []int{2}); trap != api.TrNone || y.Cpu != m.Cpu {
		t.Errorf("from user mode: trap %d, %+v", trap, y.Cpu)
	}
	m = with(begun(), "w4=200 w6=0x80E0 pc=333 ps=0x0005")
	x = enter(t, m, 4)
	y, trap := execute(t, x, []int{2})
	if want := with(m, "ps=0x80E5"); trap != api.TrNone || y.Cpu != want.Cpu {
		t.Errorf("from user mode: trap %d, %+v", trap, y.Cpu)
	}
}
