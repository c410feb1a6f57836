package memory

import (
	"slices"

	"emulator/api"
)

// allowed reports whether a memory may have a size.
func allowed(size int) bool {
	return size >= minMemory && size <= api.MaxMemory && size%api.BlockBytes == 0
}

// sizeOf returns the size of a memory in bytes.
func sizeOf(mem []int) int {
	return wordBytes * len(mem)
}

// odd reports whether an address is not that of a word.
func odd(addr int) bool {
	return addr%wordBytes != 0
}

// wordAddress returns the address of the word that has the byte at an address of a memory.
func wordAddress(addr int) int {
	return addr - addr%wordBytes
}

// wordWithin reports whether an address is that of a word of a memory.
func wordWithin(mem []int, addr int) bool {
	return !odd(addr) && addr >= 0 && addr < sizeOf(mem)
}

// accessible reports whether a memory has a word, or a byte, at an address.
func accessible(mem []int, addr int, byte bool) bool {
	if byte {
		return addr >= 0 && addr < sizeOf(mem)
	}
	return wordWithin(mem, addr)
}

// rangeWithin reports whether n bytes from an address on are within a memory. The address and n are not added, because their sum may not be an int.
func rangeWithin(mem []int, addr, n int) bool {
	return addr >= 0 && n >= 0 && n <= sizeOf(mem)-addr
}

// byteAt returns the byte at an address of a memory.
func byteAt(mem []int, addr int) int {
	return mem[addr/wordBytes] >> shift(addr) & maxByte
}

// setByte changes the byte at an address of a memory to v modulo 256.
func setByte(mem []int, addr, v int) {
	w := &mem[addr/wordBytes]
	*w = *w&^(maxByte<<shift(addr)) | v&maxByte<<shift(addr)
}

// shift returns the number of the first bit of the byte at an address within its word.
func shift(addr int) int {
	return addr % wordBytes * byteBits
}

// copied returns a list of words that shares no memory with the given one.
func copied(mem []int) []int {
	l := make([]int, len(mem))
	copy(l, mem)
	return l
}

// with returns bad addresses with another one, which may be among them.
func with(bad []int, addr int) []int {
	i, found := slices.BinarySearch(bad, addr)
	if found {
		return copied(bad)
	}
	l := make([]int, len(bad)+1)
	copy(l, bad[:i])
	l[i] = addr
	copy(l[i+1:], bad[i:])
	return l
}

// without returns bad addresses without one, which need not be among them.
func without(bad []int, addr int) []int {
	i, found := slices.BinarySearch(bad, addr)
	if !found {
		return copied(bad)
	}
	l := make([]int, len(bad)-1)
	copy(l, bad[:i])
	copy(l[i:], bad[i+1:])
	return l
}
