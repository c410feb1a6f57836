package mmu

import "emulator/api"

// The offsets of the registers. Those of the pages stand in order, mode by mode, each page with its base and then its descriptor.
const (
	statusOffset = 0
	addrOffset   = 2
	pagesOffset  = 16
	pageStep     = 4
	modes        = 2
	pagesEnd     = pagesOffset + modes*api.Pages*pageStep
	descriptorAt = 2 // from a base to the descriptor of its page
)

// The bits of the registers.
const (
	onBit      = 1
	faultAt    = 1
	faultBits  = 3
	baseBits   = 0xFFF
	lengthBits = 0xFF
	accessAt   = 8
	accessBits = 3
	writtenBit = 0x8000
)

// Read returns the register at an offset.
func Read(u api.Mmu, offset int) (int, bool) {
	switch {
	case offset == statusOffset:
		return status(u), true
	case offset == addrOffset:
		return u.Addr, true
	case isBase(offset):
		return pageAt(&u, offset).Base, true
	case isDescriptor(offset):
		return descriptor(*pageAt(&u, offset)), true
	}
	return 0, false
}

// Write returns the unit in which a register has been written.
func Write(u api.Mmu, offset, v int) (api.Mmu, bool) {
	switch {
	case offset == statusOffset:
		u.On = v&onBit != 0
		u.Status = v >> faultAt & faultBits
	case offset == addrOffset:
		// Only a fault changes the address of the last fault.
	case isBase(offset):
		pageAt(&u, offset).Base = v & baseBits
	case isDescriptor(offset):
		describe(pageAt(&u, offset), v)
	default:
		return u, false
	}
	return u, true
}

// isBase reports whether the base of a page stands at an offset.
func isBase(offset int) bool {
	return ofPages(offset) && (offset-pagesOffset)%pageStep == 0
}

// isDescriptor reports whether the descriptor of a page stands at an offset.
func isDescriptor(offset int) bool {
	return ofPages(offset) && (offset-pagesOffset)%pageStep == descriptorAt
}

// ofPages reports whether an offset is among those of the registers of pages.
func ofPages(offset int) bool {
	return offset >= pagesOffset && offset < pagesEnd
}

// pageAt returns the page whose base or descriptor stands at an offset.
func pageAt(u *api.Mmu, offset int) *api.Page {
	n := (offset - pagesOffset) / pageStep
	return &u.Pages[n/api.Pages][n%api.Pages]
}

// status returns the status register.
func status(u api.Mmu) int {
	w := u.Status << faultAt
	if u.On {
		w |= onBit
	}
	return w
}

// descriptor returns the descriptor of a page.
func descriptor(p api.Page) int {
	w := p.Length | p.Access<<accessAt
	if p.Written {
		w |= writtenBit
	}
	return w
}

// describe changes a page as its descriptor is written.
func describe(p *api.Page, v int) {
	p.Length = min(v&lengthBits, pageBlocks)
	p.Access = min(v>>accessAt&accessBits, api.AccWrite)
	p.Written = false
}
