package machine_test

import (
	"slices"
	"strings"
	"testing"

	"emulator/api"
	"emulator/machine"
)

// P20.2: Cause.

// source is a request of a machine with four lines: what makes it, its priority and its vector.
type source struct {
	setting          string
	priority, vector int
}

// sources has the requests in the order in which they are served.
var sources = []source{
	{"clock=1", 6, 64}, {"disk=1", 5, 160}, {"tape=1", 5, 164},
	{"rx0=1", 4, 128}, {"tx0=1", 4, 132}, {"rx1=1", 4, 136}, {"tx1=1", 4, 140}, {"rx2=1", 4, 144}, {"tx2=1", 4, 148}, {"rx3=1", 4, 152}, {"tx3=1", 4, 156},
}

func TestCauseWithEveryRequest(t *testing.T) {
	counts := [5]int{}
	for set := range 1 << len(sources) {
		m := blank(256, 4)
		for i, s := range sources {
			if set>>i&1 != 0 {
				m = with(m, s.setting)
			}
		}
		for priority := range 8 {
			m.Cpu.PSW = 32 * priority
			for i := range 8 {
				m.Halted, m.PowerTrap, m.Waiting = i&4 != 0, i&2 != 0, i&1 != 0
				kind, vector := 4, 0
				if m.Waiting {
					kind = 3
				}
				for k, s := range slices.Backward(sources) {
					if set>>k&1 != 0 && s.priority > priority {
						kind, vector = 2, s.vector
					}
				}
				if m.PowerTrap {
					kind, vector = 1, 20
				}
				if m.Halted {
					kind, vector = 0, 0
				}
				if k, v := machine.Cause(m); k != kind || v != vector {
					t.Fatalf("requests %b at priority %d, halted %v, power trap %v, waiting %v: %d and %d, want %d and %d", set, priority, m.Halted, m.PowerTrap, m.Waiting, k, v, kind, vector)
				}
				counts[kind]++
			}
		}
	}
	// Of the 2048 sets of requests 2047 have one above the priorities 0 to 3, 1792 one above 4, and 1024 one above 5.
	granted := 2 * (4*2047 + 1792 + 1024)
	if counts != [5]int{65536, 32768, granted, (32768 - granted) / 2, (32768 - granted) / 2} {
		t.Errorf("the causes occur %v times", counts)
	}
}

// What does not matter to the cause.
func TestCauseLooksAtNothingElse(t *testing.T) {
	for _, k := range []struct {
		settings     string
		kind, vector int
	}{
		{"ps=0", 4, 0}, {"ps=0 clock=1", 2, 64}, {"ps=0xC0BF clock=1", 2, 64}, {"ps=0xC0C0 clock=1", 4, 0}, {"ps=0x40DF clock=1 waiting=1", 3, 0},
		{"ps=0 power=5", 4, 0}, {"ps=0xC000 pc=1 ksp=1 usp=1", 4, 0}, {"ps=0xFF powertrap=1", 1, 20}, {"ps=0x1F now=1099511627776 rx1=1", 2, 136},
		{"ps=0x80 rx1=1", 4, 0}, {"ps=0x60 rx1=1", 2, 136}, {"ps=0xA0 disk=1", 4, 0}, {"ps=0x80 disk=1", 2, 160}, {"ps=0x80 tape=1", 2, 164},
		{"waiting=1 power=1", 3, 0}, {"ready=1", 4, 0}, {"clock=1 ready=0", 4, 0}, {"halted=1 clock=1", 0, 0},
	} {
		m := with(begun(0), k.settings)
		if kind, vector := machine.Cause(m); kind != k.kind || vector != k.vector {
			t.Errorf("%s: %d and %d, want %d and %d", k.settings, kind, vector, k.kind, k.vector)
		}
		m.Mmu.On, m.Bad = true, []int{0, 20, 64, 300}
		if kind, vector := machine.Cause(m); kind != k.kind || vector != k.vector {
			t.Errorf("%s, with memory management: %d and %d, want %d and %d", k.settings, kind, vector, k.kind, k.vector)
		}
	}
	m := inUse(256, 4)
	m.PowerTrap = false
	if kind, vector := machine.Cause(m); kind != 3 || vector != 0 {
		t.Errorf("a machine in use with priority 7: %d and %d", kind, vector)
	}
	m.Cpu.PSW = 0
	if kind, vector := machine.Cause(m); kind != 2 || vector != 64 {
		t.Errorf("a machine in use with priority 0: %d and %d", kind, vector)
	}
	m.Clock.Enable = false
	// The disk, the tape and the transmitters are busy.
	if kind, vector := machine.Cause(m); kind != 2 || vector != 128 {
		t.Errorf("a machine in use without the clock: %d and %d", kind, vector)
	}
	m.Lines = m.Lines[:0]
	if kind, vector := machine.Cause(m); kind != 3 || vector != 0 {
		t.Errorf("a machine in use without clock and lines: %d and %d", kind, vector)
	}
}

// P20.3: Step. The tests of this file compute by hand.

// deed is a step: the words at PC, what is set before it, and what has changed after it besides the time, which goes on by one tick.
type deed struct {
	name          string
	words         []int
	before, after string
}

// expectStep checks a step, which is also the only one of a run.
func expectStep(t *testing.T, name string, m, want api.Machine) {
	t.Helper()
	if !machine.Right(m) || !machine.Right(want) {
		t.Fatalf("%s: the machine before is right: %v, the one after it: %v", name, machine.Right(m), machine.Right(want))
	}
	if x := machine.Step(m); !same(x, want) {
		t.Errorf("%s: wrong are %s: %+v, now %d, halted %v, waiting %v, power %d, power trap %v", name, differences(x, want), x.Cpu, x.Now, x.Halted, x.Waiting, x.Power, x.PowerTrap)
	}
	if x := machine.Run(m, 1); !same(x, want) {
		t.Errorf("%s: wrong are %s after a run", name, differences(x, want))
	}
}

// expectDeeds checks steps.
func expectDeeds(t *testing.T, l []deed) {
	t.Helper()
	for _, d := range l {
		m := with(begun(d.words...), "now=7 left=50 "+d.before)
		want := with(m, "now=8 left=49 "+d.after)
		expectStep(t, d.name, m, want)
	}
}

func TestInstructions(t *testing.T) {
	expectDeeds(t, []deed{
		{"nop", []int{0o000240}, "", "pc=302"},
		{"mov #5, r1", []int{0o012701, 5}, "ps=15", "pc=304 r1=5 ps=1"},
		{"mov #5, @#100", []int{0o012737, 5, 100}, "", "pc=306 w100=5"},
		{"br .", []int{0o000777}, "", ""},
		{"inc r0 at priority 7 with requests", []int{0o005200}, "ps=0xE0 clock=1 disk=1 tape=1 rx0=1 tx1=1", "pc=302 r0=1"},
		{"inc r0 in user mode", []int{0o005200}, "ps=0xC000 r0=65535", "pc=302 r0=0 ps=0xC004"},
		{"rti", []int{2}, "ksp=508 w508=400 w510=0x400F", "pc=400 ps=0x400F ksp=512"},
		{"wait", []int{1}, "", "pc=302 waiting=1"},
		{"halt", []int{0}, "", "pc=302 halted=1"},
		{"halt while the power fails", []int{0}, "power=9", "pc=302 halted=1 power=0"},
		{"reset", []int{5}, "ps=0xE0 clock=1 disk=1 tape=1 rx0=1 tx1=1", "pc=302 clock=0 disk=0 tape=0 rx0=0 tx1=0 left=99"},
		{"a word of a vector as instruction", nil, "pc=64 w64=0o005200", "pc=66 r0=1"},
		{"the last word of memory", nil, "pc=1022 w1022=0o005200", "pc=1024 r0=1"},
	})
}

func TestTrapsOfInstructions(t *testing.T) {
	expectDeeds(t, []deed{
		{"emt", []int{0o104003}, "ps=5", "pc=624 ps=0xE1 ksp=508 w510=5 w508=302"},
		{"trap", []int{0o104777}, "ps=5", "pc=628 ps=0xE1 ksp=508 w510=5 w508=302"},
		{"bpt", []int{3}, "ps=5", "pc=612 ps=0xE1 ksp=508 w510=5 w508=302"},
		{"iot", []int{4}, "ps=5", "pc=616 ps=0xE1 ksp=508 w510=5 w508=302"},
		{"no instruction", []int{7}, "ps=5", "pc=608 ps=0xE1 ksp=508 w510=5 w508=300"},
		{"jmp r1", []int{0o000101}, "", "pc=608 ps=0xE1 ksp=508 w510=0 w508=300"},
		{"halt in user mode", []int{0}, "ps=0xC005", "pc=608 ps=0x40E1 ksp=508 w510=0xC005 w508=300"},
		{"wait in user mode", []int{1}, "ps=0x8005", "pc=608 ps=0x40E1 ksp=508 w510=0x8005 w508=300"},
		{"reset in user mode", []int{5}, "ps=0x8005", "pc=608 ps=0x40E1 ksp=508 w510=0x8005 w508=300"},
		{"trap in user mode", []int{0o104401}, "ps=0xC00F", "pc=628 ps=0x40E1 ksp=508 w510=0xC00F w508=302"},
		{"trap into user mode", []int{0o104401}, "ps=3 w30=0x8007", "pc=628 ps=0x8007 usp=1020 w1022=3 w1020=302"},
		{"an odd address", []int{0o013701, 301}, "ps=5", "pc=604 ps=0xE1 ksp=508 w510=5 w508=300"},
		{"no memory", []int{0o013701, 1024}, "ps=5", "pc=604 ps=0xE1 ksp=508 w510=5 w508=300"},
		{"registers come back", []int{0o012122}, "r1=600 r2=33", "pc=604 ps=0xE1 ksp=508 w510=0 w508=300"},
		{"memory stays", []int{0o006637, 301}, "ksp=510 w510=9", "pc=604 ps=0xE1 ksp=506 w508=0 w506=300"},
		{"an odd PC", []int{0}, "pc=301", "pc=604 ps=0xE1 ksp=508 w508=301"},
		{"PC behind memory", []int{0}, "pc=1024", "pc=604 ps=0xE1 ksp=508 w508=1024"},
		{"an extension word behind memory", nil, "pc=1022 w1022=0o012701", "pc=604 ps=0xE1 ksp=508 w508=1022"},
		{"wrong parity of an operand", []int{0o013701, 100}, "bad=100 ps=5", "pc=636 ps=0xE1 ksp=508 w510=5 w508=300"},
		{"wrong parity of an instruction", []int{0o013701, 100}, "bad=300", "pc=636 ps=0xE1 ksp=508 w508=300"},
		{"wrong parity of an extension word", []int{0o013701, 100}, "bad=302", "pc=636 ps=0xE1 ksp=508 w508=300"},
		{"a trap behind registers", []int{0o012737, 5, 0xE400}, "ps=5", "pc=604 ps=0xE1 ksp=508 w510=5 w508=300"},
	})
}

// What an instruction that is aborted has done to devices and to memory management remains.
func TestAbortsKeepDevices(t *testing.T) {
	m := with(begun(0o013737, 0xE202, 301), "ps=0xE0 rx0=1 left=50")
	m.Lines[0].RxData = 70
	want := with(m, "pc=604 ps=0xE1 ksp=508 w510=0xE0 w508=300 now=1 left=49")
	want.Lines[0].RxReady = false
	expectStep(t, "a byte that is read", m, want)

	m = begun(0o013701, 8192)
	m.Mmu.On = true
	m.Mmu.Pages[kernel][0] = api.Page{Length: 16, Access: 2}
	want = with(m, "pc=632 ps=0xE1 ksp=508 w508=300 now=1 left=99")
	want.Mmu.Status, want.Mmu.Addr, want.Mmu.Pages[kernel][0].Written = 1, 8192, true
	expectStep(t, "a fault of memory management", m, want)

	m.Cpu.PSW = 0xC000
	m.Mmu.Pages[user][0] = api.Page{Base: 4, Length: 1, Access: 1}
	m.Cpu.PC = 44
	// The words at 300 are at 44 for user mode, the stack of the trap is that of kernel mode.
	want = with(m, "pc=632 ps=0x40E1 ksp=508 w510=0xC000 w508=44 now=1 left=99")
	want.Mmu.Status, want.Mmu.Addr, want.Mmu.Pages[kernel][0].Written = 1, 8192, true
	expectStep(t, "a fault in user mode", m, want)
}

func TestTraceBit(t *testing.T) {
	expectDeeds(t, []deed{
		{"nop", []int{0o000240}, "ps=0x10", "pc=612 ps=0xE1 ksp=508 w510=0x10 w508=302"},
		{"scc", []int{0o000277}, "ps=0x10", "pc=612 ps=0xE1 ksp=508 w510=0x1F w508=302"},
		{"mov #5, @#100", []int{0o012737, 5, 100}, "ps=0x14", "pc=612 ps=0xE1 ksp=508 w510=0x10 w508=306 w100=5"},
		{"br .", []int{0o000777}, "ps=0x10", "pc=612 ps=0xE1 ksp=508 w510=0x10 w508=300"},
		{"nop in user mode", []int{0o000240}, "ps=0xC010", "pc=612 ps=0x40E1 ksp=508 w510=0xC010 w508=302"},
		{"nop at priority 7", []int{0o000240}, "ps=0xF0", "pc=612 ps=0xE1 ksp=508 w510=0xF0 w508=302"},
		{"rti that clears it", []int{2}, "ps=0x10 ksp=508 w508=400 w510=5", "pc=612 ps=0xE1 w508=400 w510=5"},
		{"rti that sets it", []int{2}, "ps=5 ksp=508 w508=400 w510=0x10", "pc=400 ps=0x10 ksp=512"},
		{"rti that keeps it", []int{2}, "ps=0x15 ksp=508 w508=400 w510=0x10", "pc=612 ps=0xE1 w508=400 w510=0x10"},
		{"trap", []int{0o104400}, "ps=0x10", "pc=628 ps=0xE1 ksp=508 w510=0x10 w508=302"},
		{"emt", []int{0o104000}, "ps=0x10", "pc=624 ps=0xE1 ksp=508 w510=0x10 w508=302"},
		{"iot", []int{4}, "ps=0x10", "pc=616 ps=0xE1 ksp=508 w510=0x10 w508=302"},
		{"bpt", []int{3}, "ps=0x10", "pc=612 ps=0xE1 ksp=508 w510=0x10 w508=302"},
		{"no instruction", []int{7}, "ps=0x10", "pc=608 ps=0xE1 ksp=508 w510=0x10 w508=300"},
		{"an odd address", []int{0o013701, 301}, "ps=0x10", "pc=604 ps=0xE1 ksp=508 w510=0x10 w508=300"},
		{"wrong parity", []int{0o013701, 100}, "bad=300 ps=0x10", "pc=636 ps=0xE1 ksp=508 w510=0x10 w508=300"},
		{"a vector that sets it", []int{0o104400}, "w30=0x10", "pc=628 ps=0x10 ksp=508 w510=0 w508=302"},
		{"a trap into a PSW with it", []int{0o000240}, "ps=0x10 w14=0x10", "pc=612 ps=0x10 ksp=508 w510=0x10 w508=302"},
		// The instruction is executed, and then the trap is entered.
		{"halt", []int{0}, "ps=0x10", "pc=612 ps=0xE1 ksp=508 w510=0x10 w508=302 halted=1"},
		{"wait", []int{1}, "ps=0x10", "pc=612 ps=0xE1 ksp=508 w510=0x10 w508=302 waiting=1"},
		{"reset", []int{5}, "ps=0xF0 clock=1", "pc=612 ps=0xE1 ksp=508 w510=0xF0 w508=302 clock=0 left=99"},
		// Where no instruction is executed, nothing is traced.
		{"the power trap", []int{0o000240}, "ps=0x10 powertrap=1", "pc=620 ps=0xE1 ksp=508 w510=0x10 w508=300 powertrap=0"},
		{"an interrupt", []int{0o000240}, "ps=0x10 clock=1", "pc=664 ps=0xE1 ksp=508 w510=0x10 w508=300 ready=0"},
		{"waiting", []int{0o000240}, "ps=0x10 waiting=1", ""},
		{"halted", []int{0o000240}, "ps=0x10 halted=1", "now=7 left=50"},
	})
	m := machine.Run(with(begun(2, 0o000240), "ksp=508 w508=302 w510=0x10"), 2)
	if m.Cpu.PC != 612 || m.Mem[254] != 304 || m.Mem[255] != 0x10 {
		t.Errorf("the second instruction is not traced: %+v", m.Cpu)
	}
}

func TestPowerTrap(t *testing.T) {
	expectDeeds(t, []deed{
		{"in kernel mode", nil, "powertrap=1 power=9 ps=5", "pc=620 ps=0xE1 ksp=508 w510=5 w508=300 powertrap=0 power=8"},
		{"in user mode", nil, "powertrap=1 power=9 ps=0xC00A", "pc=620 ps=0x40E1 ksp=508 w510=0xC00A w508=300 powertrap=0 power=8"},
		{"into user mode", nil, "powertrap=1 power=9 ps=5 w22=0x80E1", "pc=620 ps=0x80E1 usp=1020 w1022=5 w1020=300 powertrap=0 power=8"},
		{"while the machine waits", nil, "powertrap=1 power=9 waiting=1 ps=5", "pc=620 ps=0xE1 ksp=508 w510=5 w508=300 powertrap=0 power=8 waiting=0"},
		{"at priority 7", nil, "powertrap=1 power=9 ps=0xE0", "pc=620 ps=0xE1 ksp=508 w510=0xE0 w508=300 powertrap=0 power=8"},
		{"without a failure", nil, "powertrap=1", "pc=620 ps=0xE1 ksp=508 w510=0 w508=300 powertrap=0"},
		{"ahead of all requests", nil, "powertrap=1 power=9 clock=1 disk=1 tape=1 rx0=1 tx0=1", "pc=620 ps=0xE1 ksp=508 w510=0 w508=300 powertrap=0 power=8"},
		{"and the power is lost", nil, "powertrap=1 power=1 waiting=1", "pc=620 ps=0xE1 ksp=508 w510=0 w508=300 powertrap=0 power=0 waiting=0 halted=1"},
		{"and it cannot be entered", nil, "powertrap=1 power=9 waiting=1 ksp=1 ps=5", "powertrap=0 power=0 waiting=0 halted=1"},
		{"and its vector is bad", nil, "powertrap=1 power=9 bad=20", "powertrap=0 power=0 halted=1"},
		{"and the second word of its vector is bad", nil, "powertrap=1 power=9 bad=22", "powertrap=0 power=0 halted=1"},
		{"and only one word can be pushed", nil, "powertrap=1 power=9 ksp=2", "powertrap=0 power=0 halted=1"},
	})
}

func TestInterrupts(t *testing.T) {
	expectDeeds(t, []deed{
		{"clock", nil, "clock=1 ps=5", "pc=664 ps=0xE1 ksp=508 w510=5 w508=300 ready=0"},
		{"disk", nil, "disk=1 ps=5", "pc=760 ps=0xE1 ksp=508 w510=5 w508=300 disk=0"},
		{"tape", nil, "tape=1 ps=5", "pc=764 ps=0xE1 ksp=508 w510=5 w508=300 tape=0"},
		{"receiver 0", nil, "rx0=1 ps=5", "pc=728 ps=0xE1 ksp=508 w510=5 w508=300"},
		{"transmitter 0", nil, "tx0=1 ps=5", "pc=732 ps=0xE1 ksp=508 w510=5 w508=300"},
		{"receiver 1", nil, "rx1=1 ps=5", "pc=736 ps=0xE1 ksp=508 w510=5 w508=300"},
		{"transmitter 1", nil, "tx1=1 ps=5", "pc=740 ps=0xE1 ksp=508 w510=5 w508=300"},
		{"all", nil, "clock=1 disk=1 tape=1 rx0=1 tx0=1 rx1=1 tx1=1", "pc=664 ps=0xE1 ksp=508 w510=0 w508=300 ready=0"},
		{"all but the clock", nil, "disk=1 tape=1 rx0=1 tx0=1 rx1=1 tx1=1", "pc=760 ps=0xE1 ksp=508 w510=0 w508=300 disk=0"},
		{"all but clock and disk", nil, "tape=1 rx0=1 tx0=1 rx1=1 tx1=1", "pc=764 ps=0xE1 ksp=508 w510=0 w508=300 tape=0"},
		{"both lines", nil, "rx1=1 tx1=1 tx0=1", "pc=732 ps=0xE1 ksp=508 w510=0 w508=300"},
		{"at priority 5", nil, "clock=1 disk=1 tape=1 rx0=1 ps=0xA0", "pc=664 ps=0xE1 ksp=508 w510=0xA0 w508=300 ready=0"},
		{"at priority 4", nil, "tape=1 rx0=1 ps=0x80", "pc=764 ps=0xE1 ksp=508 w510=0x80 w508=300 tape=0"},
		{"at priority 3", nil, "rx0=1 ps=0x60", "pc=728 ps=0xE1 ksp=508 w510=0x60 w508=300"},
		{"while the machine waits", nil, "tape=1 waiting=1", "pc=764 ps=0xE1 ksp=508 w510=0 w508=300 tape=0 waiting=0"},
		{"in user mode", nil, "disk=1 ps=0xC01F", "pc=760 ps=0x40E1 ksp=508 w510=0xC01F w508=300 disk=0"},
		{"into user mode", nil, "disk=1 w162=0x8000", "pc=760 ps=0x8000 usp=1020 w1022=0 w1020=300 disk=0"},
		{"while the power fails", nil, "disk=1 power=3", "pc=760 ps=0xE1 ksp=508 w510=0 w508=300 disk=0 power=2"},
		{"that cannot be entered", nil, "clock=1 waiting=1 ksp=1", "ready=0 waiting=0 halted=1"},
		{"that cannot be entered while the power fails", nil, "disk=1 power=5 ksp=1", "disk=0 power=0 halted=1"},
		{"with a bad vector", nil, "tape=1 bad=164", "tape=0 halted=1"},
		{"with another bad vector", nil, "tape=1 bad=160", "pc=764 ps=0xE1 ksp=508 w510=0 w508=300 tape=0"},
	})
}

func TestWaiting(t *testing.T) {
	expectDeeds(t, []deed{
		{"waiting", []int{0o005200}, "waiting=1", ""},
		{"waiting at priority 7", []int{0o005200}, "waiting=1 ps=0xE0 clock=1 disk=1 tape=1 rx0=1 tx1=1", ""},
		{"waiting in user mode", []int{0o005200}, "waiting=1 ps=0xC000", ""},
		{"waiting where PC is odd", []int{0o005200}, "waiting=1 pc=301", ""},
		{"waiting while the power fails", []int{0o005200}, "waiting=1 power=10000", "power=9999"},
		{"waiting while the power fails at last", []int{0o005200}, "waiting=1 power=2", "power=1"},
		{"waiting when the power is lost", []int{0o005200}, "waiting=1 power=1", "power=0 waiting=0 halted=1"},
	})
}

// A trap that cannot be entered halts the machine, whose registers are those after the instruction, or those before one that is aborted.
func TestTrapsThatHalt(t *testing.T) {
	expectDeeds(t, []deed{
		{"emt", []int{0o104000}, "ksp=1 r1=5 ps=5", "pc=302 halted=1"},
		{"trap", []int{0o104400}, "ksp=2 r1=5 ps=5", "pc=302 halted=1"},
		{"bpt", []int{3}, "ksp=0", "pc=302 halted=1"},
		{"iot", []int{4}, "bad=16", "pc=302 halted=1"},
		{"a traced instruction", []int{0o012701, 77}, "ps=0x10 ksp=1", "pc=304 r1=77 halted=1"},
		{"a traced instruction and a bad vector", []int{0o012701, 77}, "ps=0x10 bad=14", "pc=304 r1=77 halted=1"},
		{"no instruction", []int{7}, "ksp=1 ps=5", "halted=1"},
		{"a bus trap", []int{0o012737, 5, 2000}, "ksp=1 ps=5", "halted=1"},
		{"a bus trap through a bad vector", []int{0o012021}, "bad=4 r0=100 r1=301", "halted=1"},
		{"an instruction in user mode", []int{0o104400}, "ksp=1 ps=0xC000", "pc=302 halted=1"},
		{"an instruction in user mode while the power fails", []int{0o104400}, "ksp=1 ps=0xC000 power=100", "pc=302 halted=1 power=0"},
		{"a stack of user mode", []int{0o104400}, "w30=0x8000 usp=1", "pc=302 halted=1"},
	})
}

func TestHaltedMachinesStay(t *testing.T) {
	for _, s := range []string{"", "clock=1", "ps=0xFF", "disk=1 tape=1 rx0=1 tx0=1", "pc=301 ksp=1", "left=1 now=1099511627776", "bad=300"} {
		m := with(begun(0o005200), "halted=1 "+s)
		expectStep(t, s, m, m)
		for _, n := range []int{0, 1, 2, 1000, 1 << 40, 1<<63 - 1} {
			if x := machine.Run(m, n); !same(x, m) {
				t.Errorf("%s: %d steps change %s", s, n, differences(x, m))
			}
		}
	}
	m := inUse(256, 4)
	m.Halted, m.Waiting, m.Power, m.PowerTrap = true, false, 0, false
	expectStep(t, "a machine in use", m, m)
}

// The time goes on up to MaxTicks, whatever the step does.
func TestTimeEnds(t *testing.T) {
	for _, s := range []string{"powertrap=1", "clock=1", "waiting=1", "", "ps=0x10", "pc=301", "ksp=1 clock=1", "power=1"} {
		for _, k := range []struct{ now, after int }{{0, 1}, {1, 2}, {65535, 65536}, {1<<32 - 1, 1 << 32}, {maxTicks - 2, maxTicks - 1}, {maxTicks - 1, maxTicks}, {maxTicks, maxTicks}} {
			m := with(begun(0o000240), s)
			m.Now = k.now
			x := machine.Step(m)
			if x.Now != k.after || x.Clock.Left != 99 {
				t.Errorf("%s: %d after %d, %d ticks left of the period", s, x.Now, k.now, x.Clock.Left)
			}
			x.Now = 0
			if m.Now = 0; !same(machine.Step(m), with(x, "now=1")) {
				t.Errorf("%s: the time %d matters", s, k.now)
			}
		}
	}
	m := with(begun(0o000777), "now=1099511627774")
	if x := machine.Run(m, 10); x.Now != maxTicks || x.Clock.Left != 90 {
		t.Errorf("%d after ten steps at the end of time", x.Now)
	}
}

// The devices advance in every step, after what the step does.
func TestDevicesAdvance(t *testing.T) {
	for _, s := range []string{"powertrap=1", "waiting=1", "ps=0xE0", "ps=0xF0", "pc=301", "ksp=1 ps=0xF0", "w300=0", "w300=1", "power=3"} {
		m := with(begun(0o000240), s)
		m.Clock = api.Clock{Period: 9, Left: 1}
		m.Lines[0] = api.Line{TxData: 65, TxLeft: 1, Out: "x"}
		m.Lines[1] = api.Line{TxData: 66, TxLeft: 2}
		m.Disk.Command, m.Disk.Words, m.Disk.Addr, m.Disk.Left, m.Disk.Ready = 1, 2, 900, 1, false
		m.Tape.Command, m.Tape.Count, m.Tape.Addr, m.Tape.Left, m.Tape.Ready = 1, 4, 910, 1, false
		m.Bad = []int{902, 910}
		x := machine.Step(m)
		want := machine.Copy(x)
		want.Clock = api.Clock{Ready: true, Period: 9, Left: 9}
		want.Lines[0] = api.Line{TxReady: true, TxData: 65, Out: "xA"}
		want.Lines[1] = api.Line{TxData: 66, TxLeft: 1}
		sector := text(128, 0)
		want.Mem[450], want.Mem[451] = int(sector[0])+256*int(sector[1]), int(sector[2])+256*int(sector[3])
		want.Mem[455], want.Bad = 'a'+256*'b', nil
		want.Disk.Words, want.Disk.Addr, want.Disk.Start, want.Disk.Left, want.Disk.Ready = 0, 904, 1, 0, true
		want.Tape.Count, want.Tape.Pos, want.Tape.Left, want.Tape.Ready = 2, 1, 0, true
		if !same(x, want) {
			t.Errorf("%s: wrong are %s", s, differences(x, want))
		}
	}
}

func TestInstructionsComeBeforeTheDevices(t *testing.T) {
	// Writing the status of the clock clears Ready; a period that ends in the same step sets it.
	m := with(begun(0o012737, 64, 0xE100), "left=1 ps=0xE0 ready=1")
	x := machine.Step(m)
	if x.Clock != (api.Clock{Enable: true, Ready: true, Period: 100, Left: 100}) {
		t.Errorf("the clock: %+v", x.Clock)
	}
	// So does an interrupt that is accepted.
	m = with(begun(0), "left=1 clock=1")
	if x = machine.Step(m); x.Cpu.PC != 664 || x.Clock != (api.Clock{Enable: true, Ready: true, Period: 100, Left: 100}) {
		t.Errorf("PC %d, the clock: %+v", x.Cpu.PC, x.Clock)
	}
	// The first tick of a byte that is sent, or of a transfer, passes in the step of the instruction that begins it.
	if x = machine.Step(begun(0o012737, 65, 0xE206)); x.Lines[0].TxLeft != 3 || x.Lines[0].TxReady {
		t.Errorf("the line: %+v", x.Lines[0])
	}
	m = begun(0o012737, 3, 0xE300)
	m.Disk.Words = 1
	if x = machine.Step(m); x.Disk.Left != 7 || x.Disk.Ready {
		t.Errorf("the disk: %+v", x.Disk)
	}
	if x = machine.Step(begun(0o012737, 3, 0xE320)); x.Tape.Left != 15 || x.Tape.Ready {
		t.Errorf("the tape: %+v", x.Tape)
	}
	// An instruction still reads what a transfer overwrites at the end of its step.
	m = begun(0o013701, 302)
	m.Disk.Command, m.Disk.Words, m.Disk.Addr, m.Disk.Left, m.Disk.Ready = 1, 64, 280, 1, false
	if x = machine.Step(m); x.Cpu.R[1] != 302 || x.Cpu.PC != 304 || x.Mem[151] == 302 {
		t.Errorf("R1 is %d", x.Cpu.R[1])
	}
	// A request that a tick makes is served in the next step.
	m = with(begun(0o000240, 0o000240), "left=1")
	m.Clock.Enable = true
	if x = machine.Step(m); x.Cpu.PC != 302 || !x.Clock.Ready {
		t.Errorf("PC is %d", x.Cpu.PC)
	}
	if x = machine.Step(x); x.Cpu.PC != 664 || x.Mem[254] != 302 {
		t.Errorf("PC is %d", x.Cpu.PC)
	}
}

// The chapter's examples.

func TestExamples(t *testing.T) {
	m, _ := machine.New(256, 0, 1)
	m.Mem[0] = 0o000777
	for n := range 10 {
		if x := machine.Run(m, n); x.Cpu != (api.Cpu{}) || x.Now != n {
			t.Errorf("br . after %d steps: %+v, now %d", n, x.Cpu, x.Now)
		}
	}

	m, _ = machine.New(256, 0, 1)
	x := machine.Step(m)
	if !x.Halted || x.Cpu.PC != 2 || x.Now != 1 || !same(machine.Step(x), x) || !same(machine.Run(x, 100), x) {
		t.Errorf("halt: %+v, now %d", x.Cpu, x.Now)
	}

	m, _ = machine.New(256, 0, 1)
	m = with(m, "w0=1 w64=32 w66=0 ksp=256")
	m.Clock.Enable = true
	if x = machine.Step(m); !x.Waiting || x.Cpu.PC != 2 {
		t.Errorf("wait: %+v", x.Cpu)
	}
	for n := 1; n < 100; n++ {
		if !x.Waiting || x.Cpu.PC != 2 || x.Clock.Ready || x.Now != n {
			t.Fatalf("after %d steps: %+v", n, x.Cpu)
		}
		x = machine.Step(x)
	}
	if !x.Waiting || !x.Clock.Ready || x.Now != 100 {
		t.Errorf("the end of the period: %+v", x.Clock)
	}
	x = machine.Step(x)
	if x.Waiting || x.Cpu != (api.Cpu{SP: [2]int{252, 0}, PC: 32}) || x.Mem[127] != 0 || x.Mem[126] != 2 || x.Clock.Ready {
		t.Errorf("the interrupt: %+v", x.Cpu)
	}
}

// Programs that work with interrupts.

func TestEcho(t *testing.T) {
	// wait; br back. The receiver of line 1 has the vector 136: mov @#0xE20A, @#0xE20E; rti at 736.
	m := begun(1, 0o000776)
	copy(m.Mem[736/2:], []int{0o013737, 0xE20A, 0xE20E, 2})
	m.Lines[1].RxEnable = true
	for i, b := range []byte("Hello\x00\xff") {
		m = machine.Run(m, 3)
		if !m.Waiting {
			t.Fatalf("byte %d: the machine does not wait at %d", i, m.Cpu.PC)
		}
		m, _ = machine.Type(m, 1, int(b))
		m = machine.Run(m, 5)
		if m.Lines[1].TxReady != true || m.Lines[1].Out != "Hello\x00\xff"[:i+1] || m.Lines[1].RxReady {
			t.Fatalf("byte %d: %+v", i, m.Lines[1])
		}
	}
	if m.Lines[0].Out != "" || m.Cpu.SP[kernel] != 512 || m.Halted {
		t.Errorf("the machine at the end: %+v", m.Cpu)
	}
}

func TestClockCounts(t *testing.T) {
	// inc r0; br back. The vector 64: inc r1; rti at 664.
	m := begun(0o005200, 0o000776)
	copy(m.Mem[664/2:], []int{0o005201, 2})
	m.Mem[66/2] = 0xC0
	m.Clock = api.Clock{Enable: true, Period: 10, Left: 10}
	for n := range 400 {
		// The interrupt is entered in the step after each period, and counts in the one after that.
		if want := max(0, n-2) / 10; m.Cpu.R[1] != want {
			t.Fatalf("after %d steps R1 is %d, not %d", n, m.Cpu.R[1], want)
		}
		m = machine.Step(m)
	}
	// 39 interrupts have ended: 117 steps are theirs, the others are those of the loop.
	if m.Cpu.R[1] != 39 || m.Cpu.R[0] != (400-117+1)/2 || m.Cpu.SP[kernel] != 512 {
		t.Errorf("%+v", m.Cpu)
	}
}

func TestDiskProgram(t *testing.T) {
	// The disk reads 70 words from its first two sectors to 800, while the processor waits for its interrupt.
	m := begun(0o012737, 70, 0xE302, 0o012737, 800, 0xE304, 0o005037, 0xE306, 0o012737, 64+2+1, 0xE300, 1, 0)
	m.Mem[760/2] = 2
	m = machine.Run(m, 1000)
	if !m.Halted || m.Cpu.PC != 326 || m.Cpu.SP[kernel] != 512 {
		t.Fatalf("%+v", m.Cpu)
	}
	// 4 instructions, the 15 ticks that are left, the interrupt, rti and halt.
	if m.Now != 4+15+3 {
		t.Errorf("%d steps", m.Now)
	}
	var got strings.Builder
	for _, w := range m.Mem[400:470] {
		got.WriteByte(byte(w))
		got.WriteByte(byte(w >> 8))
	}
	if got.String() != text(128, 0)+text(128, 1)[:12] || m.Disk.Enable || m.Disk.Error {
		t.Errorf("%q", got.String())
	}
}
