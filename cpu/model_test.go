package cpu_test

import (
	"fmt"
	"testing"

	"emulator/api"
	"emulator/bus"
	"emulator/cpu"
	"emulator/inst"
	"emulator/mmu"
)

// twin is a machine that executes the words of instructions by the octal patterns of the document, with arithmetic of its own. An access that has a trap panics with it. Only memory management and the bus are those of the program.
type twin struct {
	m    api.Machine
	rest []int   // the extension words that have not been used
	log  []visit // the accesses
}

// visit is an access to a virtual address in the space of a mode.
type visit struct {
	mode, addr  int
	byte, write bool
}

// stop is what a trap panics with.
type stop struct{ trap api.Trap }

// spot is where an operand is: a register, or an address in the space of a mode.
type spot struct {
	register *int
	mode     int
	addr     int
}

// attempt does something, and returns the trap with which it panics.
func attempt(do func()) (trap api.Trap) {
	defer func() {
		if e := recover(); e != nil {
			s, ok := e.(stop)
			if !ok {
				panic(e)
			}
			trap = s.trap
		}
	}()
	do()
	return api.TrNone
}

// access reads or writes in the space of a mode.
func (x *twin) access(a visit, v int) int {
	a.addr = remainder(a.addr, 65536)
	x.log = append(x.log, a)
	if a.addr%2 == 1 && !a.byte {
		panic(stop{api.TrBus})
	}
	phys, u, trap := mmu.Translate(x.m.Mmu, a.mode, a.addr, a.write)
	x.m.Mmu = u
	if trap == api.TrNone && a.write {
		x.m, trap = bus.Write(x.m, phys, a.byte, v)
	} else if trap == api.TrNone {
		x.m, v, trap = bus.Read(x.m, phys, a.byte)
	}
	if trap != api.TrNone {
		panic(stop{trap})
	}
	return v
}

func (x *twin) mode() int { return x.m.Cpu.PSW >> 15 & 1 }

func (x *twin) oldMode() int { return x.m.Cpu.PSW >> 14 & 1 }

// word returns the word at an address in the current mode.
func (x *twin) word(addr int) int { return x.access(visit{x.mode(), addr, false, false}, 0) }

// reg returns a register, register 6 of a mode.
func (x *twin) reg(n, mode int) *int {
	return []*int{&x.m.Cpu.R[0], &x.m.Cpu.R[1], &x.m.Cpu.R[2], &x.m.Cpu.R[3], &x.m.Cpu.R[4], &x.m.Cpu.R[5], &x.m.Cpu.SP[mode], &x.m.Cpu.PC}[n]
}

// r returns a register in the current mode.
func (x *twin) r(n int) *int { return x.reg(n, x.mode()) }

// move adds to a register, and returns what it was before.
func move(r *int, by int) int {
	before := *r
	*r = remainder(before+by, 65536)
	return before
}

// extension returns the next extension word, past which PC moves.
func (x *twin) extension() int {
	v := x.rest[0]
	x.rest = x.rest[1:]
	move(&x.m.Cpu.PC, 2)
	return v
}

// at returns where an operand of six bits is, for an operation on so many bits.
func (x *twin) at(field, bits int) spot {
	mode, n := field/8, field%8
	r, here := x.r(n), spot{mode: x.mode()}
	q := 2
	if bits == 8 && n < 6 {
		q = 1
	}
	switch field {
	case 0o27:
		here.addr = x.m.Cpu.PC
		x.extension()
		return here
	case 0o37:
		here.addr = x.extension()
		return here
	}
	switch mode {
	case 0:
		here.register = r
	case 1:
		here.addr = *r
	case 2:
		here.addr = move(r, q)
	case 3:
		here.addr = x.word(move(r, 2))
	case 4:
		move(r, -q)
		here.addr = *r
	case 5:
		move(r, -2)
		here.addr = x.word(*r)
	case 6:
		here.addr = x.extension() + *r
	case 7:
		here.addr = x.word(x.extension() + *r)
	}
	return here
}

// get returns the operand at a place.
func (x *twin) get(s spot, bits int) int {
	if s.register != nil {
		return *s.register % (1 << bits)
	}
	return x.access(visit{s.mode, s.addr, bits == 8, false}, 0)
}

// put stores a result at a place.
func (x *twin) put(s spot, bits, v int) {
	if s.register != nil {
		*s.register += v - *s.register%(1<<bits)
		return
	}
	x.access(visit{s.mode, s.addr, bits == 8, true}, v)
}

func (x *twin) push(v int) {
	move(x.r(6), -2)
	x.access(visit{x.mode(), *x.r(6), false, true}, v)
}

func (x *twin) pop() int {
	v := x.word(*x.r(6))
	move(x.r(6), 2)
	return v
}

// codes are the condition codes N, Z, V and C.
type codes struct{ n, z, v, c bool }

func (x *twin) codes() codes {
	p := x.m.Cpu.PSW
	return codes{p&8 != 0, p&4 != 0, p&2 != 0, p&1 != 0}
}

func (x *twin) setCodes(k codes) {
	n := 0
	for i, set := range []bool{k.c, k.v, k.z, k.n} {
		if set {
			n += 1 << i
		}
	}
	x.m.Cpu.PSW += n - x.m.Cpu.PSW%16
}

// signed returns the signed value of an operand of so many bits.
func signed(v, bits int) int {
	v = remainder(v, 1<<bits)
	if v >= 1<<(bits-1) {
		v -= 1 << bits
	}
	return v
}

// result sets the condition codes for an exact number that has the signed value wide, and returns it as an operand.
func (x *twin) result(n, wide, bits int, c bool) int {
	r := remainder(n, 1<<bits)
	x.setCodes(codes{signed(r, bits) < 0, r == 0, wide != signed(r, bits), c})
	return r
}

// logic sets the condition codes for a result without a carry of its own.
func (x *twin) logic(r, bits int) int {
	return x.result(r, signed(r, bits), bits, x.codes().c)
}

func (x *twin) sum(a, b, carry, bits int) int {
	return x.result(a+b+carry, signed(a, bits)+signed(b, bits)+carry, bits, a+b+carry >= 1<<bits)
}

func (x *twin) difference(a, b, borrow, bits int) int {
	return x.result(a-b-borrow, signed(a, bits)-signed(b, bits)-borrow, bits, a < b+borrow)
}

// keepCarry does something that keeps C.
func (x *twin) keepCarry(do func() int) int {
	c := x.codes().c
	r := do()
	k := x.codes()
	k.c = c
	x.setCodes(k)
	return r
}

// two executes an operation on two operands.
func (x *twin) two(op, bits, a, field int) {
	to := x.at(field, bits)
	if op == 1 {
		r := x.logic(a, bits)
		if to.register != nil {
			r, bits = remainder(signed(r, bits), 65536), 16
		}
		x.put(to, bits, r)
		return
	}
	b := x.get(to, bits)
	switch op {
	case 2:
		x.difference(a, b, 0, bits)
	case 3:
		x.logic(a&b, bits)
	case 4:
		x.put(to, bits, x.logic(b&(1<<bits-1-a), bits))
	case 5:
		x.put(to, bits, x.logic(a|b, bits))
	case 6:
		x.put(to, bits, x.sum(a, b, 0, bits))
	case 0o16:
		x.put(to, bits, x.difference(b, a, 0, bits))
	case 0o74:
		x.put(to, bits, x.logic(a^b, bits))
	}
}

// one executes an operation on one operand.
func (x *twin) one(op, bits, field int) {
	to := x.at(field, bits)
	k, carry := x.codes(), 0
	if k.c {
		carry = 1
	}
	v, high := 0, 1<<(bits-1)
	if op != 0o50 && op != 0o67 {
		v = x.get(to, bits)
	}
	r := 0
	// moved sets the codes of an operation that moves all bits by one.
	moved := func(r int, out bool) int {
		r %= 1 << bits
		x.setCodes(codes{r >= high, r == 0, (r >= high) != out, out})
		return r
	}
	switch op {
	case 0o50:
		x.setCodes(codes{z: true})
	case 0o51:
		r = 1<<bits - 1 - v
		x.setCodes(codes{r >= high, r == 0, false, true})
	case 0o52:
		r = x.keepCarry(func() int { return x.sum(v, 1, 0, bits) })
	case 0o53:
		r = x.keepCarry(func() int { return x.difference(v, 1, 0, bits) })
	case 0o54:
		r = x.difference(0, v, 0, bits)
	case 0o55:
		r = x.sum(v, 0, carry, bits)
	case 0o56:
		r = x.difference(v, 0, carry, bits)
	case 0o57:
		x.setCodes(codes{n: v >= high, z: v == 0})
		return
	case 0o60:
		r = moved(v/2+carry*high, v%2 == 1)
	case 0o61:
		r = moved(2*v+carry, v >= high)
	case 0o62:
		r = moved(v/2+v/high*high, v%2 == 1)
	case 0o63:
		r = moved(2*v, v >= high)
	case 0o03:
		r = v/256 + v%256*256
		x.setCodes(codes{n: r%256 >= 128, z: r%256 == 0})
	case 0o67:
		if k.n {
			r = 65535
		}
		x.setCodes(codes{k.n, !k.n, false, k.c})
	}
	x.put(to, bits, r)
}

// long executes mul, div and ash.
func (x *twin) long(op, n, field int) {
	v := signed(x.get(x.at(field, 16), 16), 16)
	first, second := x.r(n), x.r(n|1)
	a := signed(*first, 16)
	switch op {
	case 0o70:
		p := a * v
		*first = remainder(p, 1<<32) / 65536
		*second = remainder(p, 65536)
		x.setCodes(codes{p < 0, p == 0, false, p != signed(p, 16)})
	case 0o71:
		p := 65536*a + *second
		if v == 0 {
			x.setCodes(codes{v: true, c: true})
			return
		}
		q, rest := p/v, p%v
		if q != signed(q, 16) {
			x.setCodes(codes{v: true})
			return
		}
		*first, *second = remainder(q, 65536), remainder(rest, 65536)
		x.setCodes(codes{n: q < 0, z: q == 0})
	case 0o72:
		x.shift(first, signed(v, 6))
	}
}

// shift moves a register by bits, one after the other.
func (x *twin) shift(r *int, n int) {
	var k codes
	negative := *r >= 32768
	for ; n > 0; n-- {
		k.c = *r >= 32768
		*r = *r * 2 % 65536
		k.v = k.v || (*r >= 32768) != negative
	}
	for ; n < 0; n++ {
		k.c = *r%2 == 1
		*r /= 2
		if negative {
			*r += 32768
		}
	}
	k.n, k.z = *r >= 32768, *r == 0
	x.setCodes(k)
}

// taken tells whether a branch with this first word is taken.
func (k codes) taken(w int) bool {
	odd := w>>8%2 == 1
	var yes bool
	switch w >> 9 {
	case 0o000:
		return true
	case 0o001: // bne, beq
		yes = k.z
	case 0o002: // bge, blt
		yes = k.n != k.v
	case 0o003: // bgt, ble
		yes = k.z || k.n != k.v
	case 0o100: // bpl, bmi
		yes = k.n
	case 0o101: // bhi, blos
		yes = k.c || k.z
	case 0o102: // bvc, bvs
		yes = k.v
	case 0o103: // bcc, bcs
		yes = k.c
	}
	return yes == odd
}

// obey executes the words of an instruction.
func (x *twin) obey(l []int) {
	w := l[0]
	x.rest = l[1:]
	pc := &x.m.Cpu.PC
	move(pc, 2)
	bits := 16 - w>>15*8
	src, n, dst := w>>6&63, w>>6&7, w&63
	top := w >> 12
	switch {
	case top%8 >= 1 && top%8 <= 5:
		x.two(top%8, bits, x.get(x.at(src, bits), bits), dst)
	case top == 0o06 || top == 0o16:
		x.two(top, 16, x.get(x.at(src, 16), 16), dst)
	case w>>9 >= 0o070 && w>>9 <= 0o072:
		x.long(w>>9, n, dst)
	case w>>9 == 0o074:
		x.two(0o74, 16, *x.r(n), dst)
	case w>>6&0o777 >= 0o050 && w>>6&0o777 <= 0o063:
		x.one(w>>6&0o777, bits, dst)
	case w>>6 == 0o003 || w>>6 == 0o067:
		x.one(w>>6, 16, dst)
	case w>>6 == 0o065:
		from := x.at(dst, 16)
		if from.mode = x.oldMode(); dst == 6 {
			from.register = x.reg(6, x.oldMode())
		}
		x.push(x.logic(x.get(from, 16), 16))
	case w>>6 == 0o066:
		v := x.logic(x.pop(), 16)
		to := x.at(dst, 16)
		if to.mode = x.oldMode(); dst == 6 {
			to.register = x.reg(6, x.oldMode())
		}
		x.put(to, 16, v)
	case w>>6 == 0o001:
		*pc = remainder(x.at(dst, 16).addr, 65536)
	case w>>9 == 0o004:
		addr := x.at(dst, 16).addr
		x.push(*x.r(n))
		*x.r(n) = *pc
		*pc = remainder(addr, 65536)
	case w>>3 == 0o0020:
		*pc = *x.r(w % 8)
		*x.r(w % 8) = x.pop()
	case w>>9 == 0o077:
		if move(x.r(n), -1); *x.r(n) != 0 {
			move(pc, -2*(w%64))
		}
	case w>>8 == 0o210:
		panic(stop{api.TrEmt})
	case w>>8 == 0o211:
		panic(stop{api.TrTrap})
	case w>>4 == 0o240>>4:
		x.m.Cpu.PSW &^= w % 16
	case w>>4 == 0o260>>4:
		x.m.Cpu.PSW |= w % 16
	case w < 0o400:
		x.simple(w)
	default:
		if x.codes().taken(w) {
			move(pc, 2*signed(w, 8))
		}
	}
}

// simple executes an instruction without operands.
func (x *twin) simple(w int) {
	switch w {
	case 0:
		x.m.Halted = true
	case 1:
		x.m.Waiting = true
	case 2:
		x.m.Cpu.PC = x.pop()
		p := x.pop()
		if x.mode() == user {
			p = x.m.Cpu.PSW/32*32 + p%32
		}
		x.m.Cpu.PSW = p & 0xC0FF
	case 3:
		panic(stop{api.TrBpt})
	case 4:
		panic(stop{api.TrIot})
	case 5:
		x.m = bus.Reset(x.m)
	}
}

// aborts tells whether a trap undoes an instruction.
func aborts(trap api.Trap) bool {
	return trap == api.TrBus || trap == api.TrIllegal || trap == api.TrMmu || trap == api.TrParity
}

// expected returns the machine after the words of a valid instruction, the trap, and the accesses.
func expected(m api.Machine, l []int) (api.Machine, api.Trap, []visit) {
	x := &twin{m: kept(m)}
	trap := attempt(func() {
		if l[0] == 0 || l[0] == 1 || l[0] == 5 {
			if x.mode() == user {
				panic(stop{api.TrIllegal})
			}
		}
		x.obey(l)
	})
	if aborts(trap) {
		x.m.Cpu = m.Cpu
	}
	return x.m, trap, x.log
}

// expectedEntry returns the machine after a trap has been entered.
func expectedEntry(m api.Machine, vector int) api.Machine {
	x := &twin{m: kept(m)}
	trap := attempt(func() {
		old := m.Cpu
		pc := x.access(visit{kernel, vector, false, false}, 0)
		status := x.access(visit{kernel, remainder(vector, 65536) + 2, false, false}, 0)
		x.m.Cpu.PC = pc
		x.m.Cpu.PSW = status&0x80FF + old.PSW>>15&1*0x4000
		x.push(old.PSW)
		x.push(old.PC)
	})
	if trap != api.TrNone {
		x.m = kept(m)
		x.m.Halted = true
	}
	return x.m
}

// pattern is a range of first words, and which of their six-bit fields are operands.
type pattern struct {
	first, last int
	high, low   bool
}

var patterns = []pattern{
	{0o010000, 0o067777, true, true}, {0o110000, 0o167777, true, true}, {0o070000, 0o072777, false, true}, {0o074000, 0o074777, false, true},
	{0o005000, 0o006377, false, true}, {0o105000, 0o106377, false, true}, {0o000300, 0o000377, false, true}, {0o006500, 0o006777, false, true},
	{0o000100, 0o000177, false, true}, {0o004000, 0o004777, false, true}, {0o000200, 0o000207, false, false}, {0o077000, 0o077777, false, false},
	{0o000400, 0o003777, false, false}, {0o100000, 0o103777, false, false}, {0o104000, 0o104777, false, false}, {0o000240, 0o000277, false, false}, {0, 5, false, false},
}

// lengthOf returns the number of words of the instruction with a first word, and 0 if there is none.
func lengthOf(w int) int {
	fields, ok := fieldsOf(w)
	division, jump := w>>9 == 0o071, w>>6 == 0o001 || w>>9 == 0o004
	if !ok || division && w>>6%2 == 1 || jump && w&63 < 8 {
		return 0
	}
	n := 1
	for _, field := range fields {
		if extended(field) {
			n++
		}
	}
	return n
}

// fieldsOf returns the six-bit fields of a first word that are operands, and whether it matches a pattern.
func fieldsOf(w int) ([]int, bool) {
	for _, p := range patterns {
		if w < p.first || w > p.last {
			continue
		}
		var l []int
		if p.high {
			l = append(l, w>>6&63)
		}
		if p.low {
			l = append(l, w&63)
		}
		return l, true
	}
	return nil, false
}

// extended tells whether an operand of six bits has an extension word.
func extended(field int) bool {
	return field >= 0o60 || field == 0o27 || field == 0o37
}

// expectedFetch returns what is fetched.
func expectedFetch(m api.Machine) (api.Inst, int, api.Machine, api.Trap) {
	x := &twin{m: kept(m)}
	var l []int
	trap := attempt(func() {
		pc := m.Cpu.PC
		w := x.word(pc)
		l = append(l, w)
		if lengthOf(w) == 0 || x.mode() == user && (w == 0 || w == 1 || w == 5) {
			panic(stop{api.TrIllegal})
		}
		for len(l) < lengthOf(w) {
			l = append(l, x.word(pc+2*len(l)))
		}
	})
	if trap != api.TrNone {
		return api.Inst{}, 0, x.m, trap
	}
	i, n := inst.Decode(l)
	return i, n, x.m, trap
}

// execute executes the words of a valid instruction, and compares the machine with what is expected.
func execute(t *testing.T, m api.Machine, l []int) (api.Machine, api.Trap) {
	t.Helper()
	i, n := inst.Decode(l)
	if n == 0 {
		t.Fatalf("the words of the test are no instruction: %o", l)
	}
	x, trap := cpu.Execute(m, i, n)
	want, wanted, _ := expected(m, l)
	if trap != wanted || !same(x, want) {
		t.Fatalf("%o: trap %d, want %d, differences: %s\nfrom %+v\ngot  %+v\nwant %+v", l, trap, wanted, differences(x, want), m.Cpu, x.Cpu, want.Cpu)
	}
	if aborts(trap) && x.Cpu != m.Cpu {
		t.Fatalf("%o is aborted and changes a register: %s", l, differences(x, m))
	}
	return x, trap
}

// fetch fetches an instruction, and compares the results with what is expected.
func fetch(t *testing.T, m api.Machine) (api.Inst, int, api.Machine, api.Trap) {
	t.Helper()
	i, n, x, trap := cpu.Fetch(m)
	wantI, wantN, want, wanted := expectedFetch(m)
	if i != wantI || n != wantN || trap != wanted || !same(x, want) {
		t.Fatalf("%+v, %d words, trap %d, want %+v, %d words, trap %d, differences: %s", i, n, trap, wantI, wantN, wanted, differences(x, want))
	}
	return i, n, x, trap
}

// enter enters a trap, and compares the machine with what is expected.
func enter(t *testing.T, m api.Machine, vector int) api.Machine {
	t.Helper()
	x, want := cpu.Enter(m, vector), expectedEntry(m, vector)
	if !same(x, want) {
		t.Fatalf("vector %d: differences: %s\ngot  %+v\nwant %+v", vector, differences(x, want), x.Cpu, want.Cpu)
	}
	return x
}

func TestPatternsOfTheModel(t *testing.T) {
	count := 0
	for w := range 65536 {
		_, n := inst.Decode([]int{w, 0, 0})
		if n != lengthOf(w) {
			t.Fatalf("%o has %d words, the model says %d", w, n, lengthOf(w))
		}
		if n > 0 {
			count++
		}
	}
	if count == 0 {
		t.Error("no instructions")
	}
	if s := fmt.Sprint(lengthOf(6), lengthOf(0), lengthOf(0o012737), lengthOf(0o100), lengthOf(0o071102)); s != "0 1 3 0 0" {
		t.Errorf("lengths %s", s)
	}
}
