package translate

import (
	"cmp"
	"slices"

	"emulator/api"
	"emulator/inst"
)

const wordBytes = 2

// wordWithin reports whether an address is that of a word of a memory.
func wordWithin(mem []int, addr int) bool {
	return addr%wordBytes == 0 && addr >= 0 && addr/wordBytes < len(mem)
}

// blockEnd returns the address behind the memory block that has the byte at an address of a memory.
func blockEnd(addr int) int {
	return addr - addr%api.BlockBytes + api.BlockBytes
}

// firstBad returns the first address from addr on of a word with wrong parity, or end if there is none before it.
func firstBad(bad []int, addr, end int) int {
	if k, _ := slices.BinarySearch(bad, addr); k < len(bad) {
		return min(bad[k], end)
	}
	return end
}

// decodable returns the words from an address on that stand before the end of its memory block and before the first word with wrong parity. There are none if it is not the address of a word of the memory.
func decodable(m api.Machine, addr int) []int {
	if !wordWithin(m.Mem, addr) {
		return nil
	}
	// Only a memory that is not valid ends within a memory block.
	end := min(blockEnd(addr), wordBytes*len(m.Mem))
	return m.Mem[addr/wordBytes : firstBad(m.Bad, addr, end)/wordBytes]
}

// stands reports whether words stand in memory from an address on, all with right parity.
func stands(m api.Machine, addr int, words []int) bool {
	if !wordWithin(m.Mem, addr) {
		return false
	}
	l := m.Mem[addr/wordBytes:]
	if len(words) > len(l) || !slices.Equal(l[:len(words)], words) {
		return false
	}
	end := addr + wordBytes*len(words)
	return firstBad(m.Bad, addr, end) == end
}

// rightBlock reports whether a block may be in a valid cache.
func rightBlock(m api.Machine, b api.Block) bool {
	if len(b.Code) == 0 || len(b.Code) > api.MaxCode {
		return false
	}
	at, last := b.Start, len(b.Code)-1
	for k, x := range b.Code {
		if x.At != at || !Fresh(m, x) || k < last && inst.Ends(x.Inst) {
			return false
		}
		at += wordBytes * len(x.Words)
	}
	// The instructions follow one another, so all of them are in the memory block if the last one is.
	return at <= blockEnd(b.Start)
}

// compareStart compares the address at which a block begins with another one.
func compareStart(b api.Block, start int) int {
	return cmp.Compare(b.Start, start)
}

// withoutLeast returns blocks, of which there are at least two, without the one with the least Start other than the block with the index k.
func withoutLeast(l []api.Block, k int) []api.Block {
	if k == 0 {
		return slices.Delete(l, 1, 2)
	}
	return slices.Delete(l, 0, 1)
}

// copiedBlocks returns a list of blocks that shares no memory with the given one.
func copiedBlocks(l []api.Block) []api.Block {
	l = slices.Clone(l)
	for k := range l {
		l[k] = copiedBlock(l[k])
	}
	return l
}

// copiedBlock returns a block that shares no memory with the given one.
func copiedBlock(b api.Block) api.Block {
	b.Code = slices.Clone(b.Code)
	for k := range b.Code {
		b.Code[k] = copiedMicro(b.Code[k])
	}
	return b
}

// copiedMicro returns a translated instruction that shares no memory with the given one.
func copiedMicro(x api.Micro) api.Micro {
	x.Words = slices.Clone(x.Words)
	return x
}
