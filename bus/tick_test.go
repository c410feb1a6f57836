package bus_test

import (
	"slices"
	"testing"

	"emulator/api"
	"emulator/bus"
	"emulator/clock"
	"emulator/diskctl"
	"emulator/line"
	"emulator/memory"
	"emulator/tape"
)

// ticked returns a machine after a tick, device by device in the order of the chapter.
func ticked(m api.Machine) api.Machine {
	m = kept(m)
	m.Clock = clock.Tick(m.Clock)
	for i := range m.Lines {
		m.Lines[i] = line.Tick(m.Lines[i])
	}
	m.Disk, m.Mem, m.Bad = diskctl.Tick(m.Disk, m.Mem, m.Bad)
	m.Tape, m.Mem, m.Bad = tape.Tick(m.Tape, m.Mem, m.Bad)
	return m
}

// expectTick checks a tick, and returns the machine after it.
func expectTick(t *testing.T, m, want api.Machine) api.Machine {
	t.Helper()
	got := bus.Tick(m)
	if !same(got, want) {
		t.Fatalf("wrong after a tick: %s", differences(got, want))
	}
	if !bus.Right(got) || got.Now != m.Now {
		t.Fatalf("not valid after a tick, or at another time: %d instead of %d", got.Now, m.Now)
	}
	return got
}

// diskBusy returns a controller of which so many ticks are left of a transfer of n words from a sector on.
func diskBusy(command, n, addr, sector, left int) api.Disk {
	return api.Disk{Drive: api.Drive{Sectors: sectors(4), Bad: []int{3}}, Command: command, Words: n, Addr: addr, Start: sector, Left: left}
}

// tapeBusy returns a unit of which so many ticks are left of a command.
func tapeBusy(command, count, addr, pos, left int) api.Tape {
	return api.Tape{Records: []string{"ab", "", text(70, 9)}, Pos: pos, Command: command, Count: count, Addr: addr, Left: left}
}

// P18.4: Tick.

func TestTickOfAQuietMachine(t *testing.T) {
	for lines := range 5 {
		m := quiet(256, lines)
		want := kept(m)
		want.Clock.Left = 99
		expectTick(t, m, want)
		m.Clock.Left = 1
		want.Clock.Left, want.Clock.Ready = 100, true
		expectTick(t, m, want)
	}
}

func TestTickOfEachDevice(t *testing.T) {
	// The clock counts in all of them.
	for _, c := range []struct {
		name           string
		before, change func(m *api.Machine)
	}{
		{"the first line", func(m *api.Machine) { m.Lines[0] = api.Line{TxData: 'x', TxLeft: 4, Out: "a"} }, func(m *api.Machine) { m.Lines[0].TxLeft = 3 }},
		{"the end of a byte", func(m *api.Machine) { m.Lines[1] = api.Line{TxData: 'x', TxLeft: 1, Out: "a"} }, func(m *api.Machine) { m.Lines[1] = api.Line{TxData: 'x', TxReady: true, Out: "ax"} }},
		{"the last line", func(m *api.Machine) { m.Lines[3] = api.Line{TxData: 'x', TxLeft: 2} }, func(m *api.Machine) { m.Lines[3].TxLeft = 1 }},
		{"the disk", func(m *api.Machine) { m.Disk = diskBusy(1, 3, 100, 1, 8) }, func(m *api.Machine) { m.Disk.Left = 7 }},
		{"the disk, before its end", func(m *api.Machine) { m.Disk = diskBusy(1, 3, 100, 1, 2) }, func(m *api.Machine) { m.Disk.Left = 1 }},
		{"a read of the disk", func(m *api.Machine) { m.Disk = diskBusy(1, 3, 100, 1, 1) }, func(m *api.Machine) {
			m.Disk = diskBusy(1, 0, 106, 2, 0)
			m.Disk.Ready = true
			m.Mem, _ = memory.Store(m.Mem, 100, text(128, 1)[:6])
		}},
		{"an error of the disk", func(m *api.Machine) { m.Disk = diskBusy(1, 3, 100, 3, 1) }, func(m *api.Machine) {
			m.Disk.Left, m.Disk.Ready, m.Disk.Error = 0, true, true
		}},
		{"the tape", func(m *api.Machine) { m.Tape = tapeBusy(1, 9, 101, 0, 16) }, func(m *api.Machine) { m.Tape.Left = 15 }},
		{"a read of the tape", func(m *api.Machine) { m.Tape = tapeBusy(1, 9, 101, 0, 1) }, func(m *api.Machine) {
			m.Tape = tapeBusy(1, 7, 101, 1, 0)
			m.Tape.Ready = true
			m.Mem, _ = memory.Store(m.Mem, 101, "ab")
		}},
		{"a write of the tape", func(m *api.Machine) { m.Tape = tapeBusy(2, 3, 101, 1, 1) }, func(m *api.Machine) {
			s, _ := memory.Bytes(m.Mem, 101, 3)
			m.Tape = api.Tape{Records: []string{"ab", s}, Pos: 2, Ready: true, Command: 2, Count: 3, Addr: 101}
		}},
	} {
		t.Run(c.name, func(t *testing.T) {
			m := requesting(256, 4)
			c.before(&m)
			want := kept(m)
			want.Clock.Left = 6
			c.change(&want)
			expectTick(t, m, want)
		})
	}
}

func TestTickInAllWays(t *testing.T) {
	// Each device is idle, at the beginning, or at the end of what it does.
	for lines := range 5 {
		ways := 9
		for range lines {
			ways *= 3
		}
		for way := range ways {
			m := inUse(256, lines)
			phase := func() int { p := way % 3; way /= 3; return p }
			m.Disk = diskBusy(1, 70, 20, 1, []int{0, 8, 1}[phase()])
			m.Disk.Ready = m.Disk.Left == 0
			m.Tape = tapeBusy(1, 80, 31, 2, []int{0, 16, 1}[phase()])
			m.Tape.Ready = m.Tape.Left == 0
			for i := range m.Lines {
				m.Lines[i].TxLeft = []int{0, 4, 1}[phase()]
				m.Lines[i].TxReady = m.Lines[i].TxLeft == 0
			}
			expectTick(t, m, ticked(m))
		}
	}
}

func TestTicksOfAllCommands(t *testing.T) {
	// Transfers of the disk and commands of the tape, from their beginning on, so that they end at different ticks, in small and large memories with bad words.
	for _, size := range []int{256, 4096} {
		for command := range 3 {
			for tapeCommand := range 7 {
				for _, bad := range [][]int{nil, {20, 22, 160}, {130}} {
					m := inUse(size, 2)
					m.Bad = bad
					m.Disk = diskBusy(command+1, 70, 20, 0, 8)
					m.Tape = tapeBusy(tapeCommand, 80, 31, 2, 16)
					for range 20 {
						m = expectTick(t, m, ticked(m))
					}
					if !m.Disk.Ready || !m.Tape.Ready {
						t.Errorf("the commands %d and %d are not at their ends", command+1, tapeCommand)
					}
				}
			}
		}
	}
}

func TestTheDiskTicksBeforeTheTape(t *testing.T) {
	start := quiet(256, 1)

	// The tape writes what the disk has read in the same tick, although the words were bad before.
	m := kept(start)
	m.Bad = []int{40, 42, 100}
	m.Disk, m.Tape = diskBusy(1, 3, 40, 2, 1), tapeBusy(2, 6, 40, 0, 1)
	got := bus.Tick(m)
	want := text(128, 2)[:6]
	if !slices.Equal(got.Tape.Records, []string{want}) || got.Tape.Error {
		t.Errorf("the tape has %q instead of %q", got.Tape.Records, want)
	}
	if s, _ := memory.Bytes(got.Mem, 40, 6); s != want || !slices.Equal(got.Bad, []int{100}) {
		t.Errorf("the memory has %q, bad are %v", s, got.Bad)
	}

	// The disk writes what was there before the tape has read in the same tick.
	m = kept(start)
	m.Disk, m.Tape = diskBusy(2, 2, 40, 2, 1), tapeBusy(1, 2, 40, 0, 1)
	old, _ := memory.Bytes(m.Mem, 40, 4)
	got = bus.Tick(m)
	if s := got.Disk.Drive.Sectors[2]; s[:4] != old || old[:2] == "ab" {
		t.Errorf("the sector has %q instead of %q", s[:4], old)
	}
	if s, _ := memory.Bytes(got.Mem, 40, 4); s != "ab"+old[2:] {
		t.Errorf("the memory has %q", s)
	}

	// Bad words stop the disk, even if the tape makes them right in the same tick.
	m.Bad = []int{40}
	got = bus.Tick(m)
	if !got.Disk.Error || got.Disk.Words != 2 || len(got.Bad) != 0 || got.Tape.Error {
		t.Errorf("error of the disk %v, bad are %v", got.Disk.Error, got.Bad)
	}

	// Both read to the same place: what the tape has read stays.
	m = kept(start)
	m.Disk, m.Tape = diskBusy(1, 3, 40, 2, 1), tapeBusy(1, 2, 42, 0, 1)
	got = bus.Tick(m)
	if s, _ := memory.Bytes(got.Mem, 40, 6); s != want[:2]+"ab"+want[4:] {
		t.Errorf("the memory has %q", s)
	}
}

func TestTickChangesMemoryAndParity(t *testing.T) {
	m := inUse(256, 0)
	m.Bad = []int{10, 40, 100, 102, 250}
	m.Disk, m.Tape = diskBusy(1, 4, 38, 0, 1), tapeBusy(1, 70, 103, 2, 1)
	got := bus.Tick(m)
	if !slices.Equal(got.Bad, []int{10, 100, 250}) {
		t.Errorf("bad are %v", got.Bad)
	}
	for addr := range 256 {
		a, _ := memory.Bytes(m.Mem, addr, 1)
		b, _ := memory.Bytes(got.Mem, addr, 1)
		want := a
		switch {
		case addr >= 38 && addr < 46:
			want = text(128, 0)[addr-38 : addr-37]
		case addr >= 103 && addr < 173:
			want = text(70, 9)[addr-103 : addr-102]
		}
		if b != want {
			t.Errorf("the byte at %d is %q instead of %q", addr, b, want)
		}
	}
}

func TestTheWholePeriod(t *testing.T) {
	// A whole period of the clock, in which lines, disk and tape work; every tick is compared.
	m := quiet(1024, 4)
	m.Clock = api.Clock{Enable: true, Period: 60, Left: 60}
	for i := range m.Lines {
		m.Lines[i] = line.Write(m.Lines[i], 6, 65+i)
	}
	m.Disk = diskBusy(1, 128, 256, 0, 8)
	m.Tape = tapeBusy(1, 70, 700, 0, 16)
	for n := range 60 {
		if got := bus.Requests(m); len(got) != 0 {
			t.Errorf("requests after %d ticks: %v", n, got)
		}
		m = expectTick(t, m, ticked(m))
		for i, l := range m.Lines {
			if (l.Out == string(rune(65+i))) != (n >= 3) {
				t.Errorf("line %d after %d ticks: %q", i, n+1, l.Out)
			}
		}
		if m.Disk.Ready != (n >= 15) || m.Tape.Ready != (n >= 15) || m.Clock.Ready != (n == 59) {
			t.Errorf("ready after %d ticks: disk %v, tape %v, clock %v", n+1, m.Disk.Ready, m.Tape.Ready, m.Clock.Ready)
		}
	}
	if got := bus.Requests(m); !slices.Equal(got, []api.Request{{Priority: 6, Vector: 64}}) {
		t.Errorf("requests at the end: %v", got)
	}
	if s, _ := memory.Bytes(m.Mem, 256, 256); s != text(128, 0)+text(128, 1) {
		t.Error("the sectors are not in memory")
	}
}
