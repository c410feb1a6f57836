package bus

import (
	"iter"

	"emulator/api"
	"emulator/clock"
	"emulator/diskctl"
	"emulator/line"
	"emulator/mmu"
	"emulator/tape"
)

// The offsets of the first registers of the devices. Those of each further line are behind those of the line before.
const (
	mmuBase   = 0
	clockBase = 256
	lineBase  = 512
	lineBytes = 8
	diskBase  = 768
	tapeBase  = 800
)

// clockReg is the only register of the clock.
const clockReg = 0

// device is a part of a machine that has registers. A method that changes the part puts a new one into the machine; lines are put into the machine's list of lines, which nobody else may have therefore. Registers are given by their distance from the first one; read and write report whether the device has the register.
type device interface {
	right(m *api.Machine) bool
	read(m *api.Machine, reg int) (int, bool)
	write(m *api.Machine, reg, v int) bool
	tick(m *api.Machine)
	requests(m *api.Machine) []api.Request
	accept(m *api.Machine, vector int)
	reset(m *api.Machine)
}

// devices returns the devices of a machine with so many lines, and the offsets of their first registers, in the order of their requests. In a tick only the disk and the tape depend on what others do, because they share the memory: the disk comes first.
func devices(lines int) iter.Seq2[int, device] {
	return func(yield func(int, device) bool) {
		if !yield(mmuBase, mmuUnit{}) || !yield(clockBase, lineClock{}) ||
			!yield(diskBase, diskUnit{}) || !yield(tapeBase, tapeUnit{}) {
			return
		}
		for i := range lines {
			if !yield(lineBase+lineBytes*i, terminal(i)) {
				return
			}
		}
	}
}

// mmuUnit is the memory management unit. It has no ticks and no interrupts.
type mmuUnit struct{}

func (mmuUnit) right(m *api.Machine) bool { return mmu.Right(m.Mmu) }

func (mmuUnit) read(m *api.Machine, reg int) (int, bool) { return mmu.Read(m.Mmu, reg) }

func (mmuUnit) write(m *api.Machine, reg, v int) bool {
	u, ok := mmu.Write(m.Mmu, reg, v)
	if ok {
		m.Mmu = u
	}
	return ok
}

func (mmuUnit) tick(*api.Machine) {}

func (mmuUnit) requests(*api.Machine) []api.Request { return nil }

func (mmuUnit) accept(*api.Machine, int) {}

func (mmuUnit) reset(m *api.Machine) { m.Mmu = mmu.Reset(m.Mmu) }

// lineClock is the line clock.
type lineClock struct{}

func (lineClock) right(m *api.Machine) bool { return clock.Right(m.Clock) }

func (lineClock) read(m *api.Machine, reg int) (int, bool) {
	if reg != clockReg {
		return 0, false
	}
	return clock.Read(m.Clock), true
}

func (lineClock) write(m *api.Machine, reg, v int) bool {
	if reg != clockReg {
		return false
	}
	m.Clock = clock.Write(m.Clock, v)
	return true
}

func (lineClock) tick(m *api.Machine) { m.Clock = clock.Tick(m.Clock) }

func (lineClock) requests(m *api.Machine) []api.Request { return clock.Requests(m.Clock) }

func (lineClock) accept(m *api.Machine, vector int) { m.Clock = clock.Accept(m.Clock, vector) }

func (lineClock) reset(m *api.Machine) { m.Clock = clock.Reset(m.Clock) }

// diskUnit is the disk controller.
type diskUnit struct{}

func (diskUnit) right(m *api.Machine) bool { return diskctl.Right(m.Disk) }

func (diskUnit) read(m *api.Machine, reg int) (int, bool) { return diskctl.Read(m.Disk, reg) }

func (diskUnit) write(m *api.Machine, reg, v int) bool {
	k, ok := diskctl.Write(m.Disk, reg, v)
	if ok {
		m.Disk = k
	}
	return ok
}

func (diskUnit) tick(m *api.Machine) { m.Disk, m.Mem, m.Bad = diskctl.Tick(m.Disk, m.Mem, m.Bad) }

func (diskUnit) requests(m *api.Machine) []api.Request { return diskctl.Requests(m.Disk) }

func (diskUnit) accept(m *api.Machine, vector int) { m.Disk = diskctl.Accept(m.Disk, vector) }

func (diskUnit) reset(m *api.Machine) { m.Disk = diskctl.Reset(m.Disk) }

// tapeUnit is the tape unit.
type tapeUnit struct{}

func (tapeUnit) right(m *api.Machine) bool { return tape.Right(m.Tape) }

func (tapeUnit) read(m *api.Machine, reg int) (int, bool) { return tape.Read(m.Tape, reg) }

func (tapeUnit) write(m *api.Machine, reg, v int) bool {
	t, ok := tape.Write(m.Tape, reg, v)
	if ok {
		m.Tape = t
	}
	return ok
}

func (tapeUnit) tick(m *api.Machine) { m.Tape, m.Mem, m.Bad = tape.Tick(m.Tape, m.Mem, m.Bad) }

func (tapeUnit) requests(m *api.Machine) []api.Request { return tape.Requests(m.Tape) }

func (tapeUnit) accept(m *api.Machine, vector int) { m.Tape = tape.Accept(m.Tape, vector) }

func (tapeUnit) reset(m *api.Machine) { m.Tape = tape.Reset(m.Tape) }

// terminal is the terminal line with this number.
type terminal int

func (n terminal) right(m *api.Machine) bool { return line.Right(m.Lines[n]) }

func (n terminal) read(m *api.Machine, reg int) (int, bool) {
	if !lineReg(reg) {
		return 0, false
	}
	l, v := line.Read(m.Lines[n], reg)
	m.Lines[n] = l
	return v, true
}

// lineReg reports whether a line has a register there, given that it is at an even offset.
func lineReg(reg int) bool { return reg >= 0 && reg < lineBytes }

func (n terminal) write(m *api.Machine, reg, v int) bool {
	if !lineReg(reg) {
		return false
	}
	m.Lines[n] = line.Write(m.Lines[n], reg, v)
	return true
}

func (n terminal) tick(m *api.Machine) { m.Lines[n] = line.Tick(m.Lines[n]) }

func (n terminal) requests(m *api.Machine) []api.Request { return line.Requests(m.Lines[n], int(n)) }

func (n terminal) accept(m *api.Machine, vector int) {
	m.Lines[n] = line.Accept(m.Lines[n], int(n), vector)
}

func (n terminal) reset(m *api.Machine) { m.Lines[n] = line.Reset(m.Lines[n]) }
