package diskctl

import (
	"slices"

	"emulator/api"
	"emulator/drive"
	"emulator/memory"
)

// Tick returns the controller and the memory after a tick.
func Tick(k api.Disk, mem, bad []int) (api.Disk, []int, []int) {
	k, mem, bad = copied(k), slices.Clone(mem), slices.Clone(bad)
	if k.Left == 0 {
		return k, mem, bad
	}
	k.Left--
	if k.Left != 0 {
		return k, mem, bad
	}
	n := min(k.Words, sectorWords)
	after, newMem, newBad, ok := transfer(k, mem, bad, n)
	if !ok {
		k.Error, k.Ready = true, true
		return k, mem, bad
	}
	return advanced(after, n), newMem, newBad
}

// advanced returns the controller after n words have been transferred: it is ready, or goes on with the next sector.
func advanced(k api.Disk, n int) api.Disk {
	k.Words -= n
	k.Addr = (k.Addr + n*wordBytes) & maxWord
	k.Start = (k.Start + 1) & maxWord
	if k.Words == 0 {
		k.Ready = true
	} else {
		k.Left = sectorTicks
	}
	return k
}

// transfer returns the controller and the memory after the command has been done for n words, and whether there was no error. The list of bad addresses is used up by it.
func transfer(k api.Disk, mem, bad []int, n int) (api.Disk, []int, []int, bool) {
	words, e := memory.Bytes(mem, k.Addr, n*wordBytes)
	if e != api.OK {
		return k, mem, bad, false
	}
	inRange := func(addr int) bool {
		return addr >= k.Addr && addr < k.Addr+len(words)
	}
	// The words of the range are replaced by a read, to which their parity does not matter therefore.
	if k.Command != readCommand && slices.ContainsFunc(bad, inRange) {
		return k, mem, bad, false
	}
	if k.Command == writeCommand {
		k.Drive, e = drive.Write(k.Drive, k.Start, words)
		return k, mem, bad, e == api.OK
	}
	sector, e := drive.Read(k.Drive, k.Start)
	if e != api.OK {
		return k, mem, bad, false
	}
	// Only in drives that are not valid are there shorter sectors.
	first := sector[:min(len(words), len(sector))]
	if k.Command == checkCommand {
		return k, mem, bad, words == first
	}
	mem, e = memory.Store(mem, k.Addr, first)
	return k, mem, slices.DeleteFunc(bad, inRange), e == api.OK
}
