package tape

import (
	"slices"

	"emulator/api"
	"emulator/memory"
)

const wordBytes = 2

// Tick returns the unit and the memory after a tick.
func Tick(t api.Tape, mem, bad []int) (api.Tape, []int, []int) {
	t, mem, bad = copied(t), slices.Clone(mem), slices.Clone(bad)
	// The commands rely on the bounds of valid units. Others, of which nothing is promised, stay as they are.
	if t.Left == 0 || !Right(t) {
		return t, mem, bad
	}
	t.Left--
	if t.Left != 0 {
		return t, mem, bad
	}
	t.Ready = true
	return carryOut(t, mem, bad)
}

// carryOut returns the unit and the memory after the command has been carried out. It uses up the lists that it is given, and so do the functions of the commands.
func carryOut(t api.Tape, mem, bad []int) (api.Tape, []int, []int) {
	switch t.Command {
	case readCommand:
		return readRecord(t, mem, bad)
	case writeCommand:
		t = writeRecord(t, mem, bad)
	case forwardCommand:
		t, _ = spaceForward(t)
	case backCommand:
		t = spaceBack(t)
	case rewindCommand:
		t.Pos = 0
	case markCommand:
		t = appendRecord(t, "")
	}
	return t, mem, bad
}

// readRecord returns the unit and the memory into which the next record has been stored, as much of it as Count allows.
func readRecord(t api.Tape, mem, bad []int) (api.Tape, []int, []int) {
	t, ok := spaceForward(t)
	if !ok {
		return t, mem, bad
	}
	record := t.Records[t.Pos-1]
	n := min(t.Count, len(record))
	after, e := memory.Store(mem, t.Addr, record[:n])
	if n < len(record) || e != api.OK {
		t.Error = true
	}
	if e != api.OK {
		return t, mem, bad
	}
	t.Count -= n
	return t, after, slices.DeleteFunc(bad, holds(t.Addr, n))
}

// writeRecord returns the unit to whose tape Count bytes of memory have been appended. Count itself stays.
func writeRecord(t api.Tape, mem, bad []int) api.Tape {
	record, e := memory.Bytes(mem, t.Addr, t.Count)
	if record == "" || tooLong(record) || e != api.OK || slices.ContainsFunc(bad, holds(t.Addr, t.Count)) {
		t.Error = true
		return t
	}
	return appendRecord(t, record)
}

// holds returns a function that reports whether the word at an address has one of n bytes from addr on. If n is 0, no word has one, not even that in whose middle addr is.
func holds(addr, n int) func(word int) bool {
	return func(word int) bool {
		return n > 0 && word+wordBytes > addr && word < addr+n
	}
}

// spaceForward returns the unit whose head has passed over the next record, and whether there is one.
func spaceForward(t api.Tape) (api.Tape, bool) {
	if t.Pos == len(t.Records) {
		return fail(t), false
	}
	t.Mark = t.Mark || t.Records[t.Pos] == ""
	t.Pos++
	return t, true
}

// spaceBack returns the unit whose head has passed over the record before it. At the beginning of the tape, where there is none, that is no error.
func spaceBack(t api.Tape) api.Tape {
	if t.Pos == 0 {
		t.End = true
		return t
	}
	t.Pos--
	t.Mark = t.Mark || t.Records[t.Pos] == ""
	return t
}

// appendRecord returns the unit to whose tape a record has been appended at the head; the records that were behind the head are lost.
func appendRecord(t api.Tape, record string) api.Tape {
	if t.Pos == api.MaxRecords {
		return fail(t)
	}
	t.Records = append(t.Records[:t.Pos], record)
	t.Pos++
	return t
}

// fail returns the unit whose tape has ended where a command needed more of it.
func fail(t api.Tape) api.Tape {
	t.Error, t.End = true, true
	return t
}
