package translate_test

import (
	"math"
	"reflect"
	"slices"
	"testing"

	"emulator/api"
	"emulator/inst"
	"emulator/translate"
)

// P21.2: Fresh.

// checkFresh checks whether a translated instruction is fresh.
func checkFresh(t *testing.T, m api.Machine, x api.Micro, want bool) {
	t.Helper()
	if got := translate.Fresh(m, x); got != want {
		t.Fatalf("%v: %+v with wrong parity at %v", got, x, m.Bad)
	}
}

// An instruction may be anywhere in memory, also in two memory blocks.
func TestFreshEverywhere(t *testing.T) {
	for _, size := range []int{256, 320, 32768} {
		for _, words := range [][]int{{clc}, {br}, {movi, 3}, {movii, 65535, none}, {0o012701, 0o012701}} {
			x := micro(0, words...)
			for _, at := range slices.Concat(even(0, 200), even(size-130, size+10)) {
				m := machineOf(size)
				copy(m.Mem[min(at, size)/2:], words)
				x.At = at
				checkFresh(t, m, x, at+2*len(words) <= size)
			}
		}
	}
}

// even returns the even numbers from a first to a last one.
func even(first, last int) []int {
	var l []int
	for n := first; n <= last; n += 2 {
		l = append(l, n)
	}
	return l
}

func TestFreshAtOtherAddresses(t *testing.T) {
	// The same words stand at every address that is a multiple of 4.
	m := machineOf(256, slices.Repeat([]int{movi, 3}, 64)...)
	x := micro(0, movi, 3)
	for at := -300; at < 600; at++ {
		x.At = at
		checkFresh(t, m, x, at >= 0 && at < 256 && at%4 == 0)
	}
	for _, at := range farInts {
		x.At = at
		checkFresh(t, m, x, false)
		checkFresh(t, m, api.Micro{At: at}, false)
	}
	for k := range 10 {
		x.At = math.MaxInt - k
		checkFresh(t, m, x, false)
		x.At = math.MinInt + k
		checkFresh(t, m, x, false)
	}
	checkFresh(t, api.Machine{}, micro(0, nop), false)
}

// One word of memory is another one.
func TestFreshAfterAChange(t *testing.T) {
	for _, words := range [][]int{{clc}, {movi, 3}, {movii, 65535, none}} {
		x := micro(60, words...)
		m := with(machineOf(256), 60, words...)
		checkFresh(t, m, x, true)
		for at := 0; at < 256; at += 2 {
			for bit := range 16 {
				w := m.Mem[at/2] ^ 1<<bit
				checkFresh(t, with(m, at, w), x, at < 60 || at >= 60+2*len(words))
			}
		}
	}
}

func TestFreshWithWrongParity(t *testing.T) {
	for _, at := range []int{0, 60, 250} {
		for _, words := range [][]int{{clc}, {movi, 3}, {movii, 65535, none}} {
			m := with(machineOf(256), at, words...)
			x := micro(at, words...)
			var others []int
			for bad := 0; bad < 256; bad += 2 {
				want := bad < at || bad >= at+2*len(words)
				if want {
					others = append(others, bad)
				}
				checkFresh(t, spoilt(m, bad), x, want)
				for _, other := range []int{0, at - 2, at + 6, at + 2*len(words), 254} {
					if (other < at || other >= at+2*len(words)) && other >= 0 && other < 256 && other != bad {
						checkFresh(t, spoilt(m, bad, other), x, want)
					}
				}
			}
			checkFresh(t, spoilt(m, others...), x, true)
		}
	}
}

// The words are exactly those of the instruction.
func TestFreshNumberOfWords(t *testing.T) {
	m := machineOf(256, movii, 3, nop, nop, none, movi, 5)
	for at := 0; at < 20; at += 2 {
		for n := range 6 {
			words := m.Mem[at/2 : at/2+n]
			i, length := inst.Decode(words)
			for _, given := range []api.Inst{{}, {Op: api.OpCcc}, i} {
				checkFresh(t, m, api.Micro{At: at, Words: words, Inst: given}, n > 0 && n == length && given == i)
			}
		}
	}
	mov, _ := inst.Decode([]int{movi, 5})
	for _, x := range []api.Micro{
		{}, {Inst: mov}, {Words: []int{}}, {At: 10, Inst: mov}, {At: 10, Words: []int{}, Inst: mov}, {At: 10, Words: []int{movi}, Inst: mov}, {At: 10, Words: []int{movi}},
		{At: 10, Words: []int{movi, 5, nop}, Inst: mov}, {At: 10, Words: []int{movi, 5, nop, nop}, Inst: mov}, {At: 10, Words: []int{movi, 4}, Inst: mov}, {At: 10, Words: []int{0o012702, 5}, Inst: mov},
		{At: 8, Words: []int{none}}, {At: 8, Words: []int{none}, Inst: api.Inst{Op: api.OpMov}}, {At: 6, Words: m.Mem[3:], Inst: api.Inst{Op: api.OpCcc}}, {At: 254}, {At: 256}, {At: 254, Words: []int{}}, {At: 256, Words: []int{}},
	} {
		checkFresh(t, m, x, false)
	}
	checkFresh(t, m, api.Micro{At: 10, Words: []int{movi, 5}, Inst: mov}, true)
	checkFresh(t, m, api.Micro{At: 0, Words: repeated(nop, 100000), Inst: api.Inst{Op: api.OpCcc}}, false)
}

// Every number of an instruction counts.
func TestFreshInstruction(t *testing.T) {
	for _, words := range [][]int{{clc}, {br}, {movi, 3}, {movii, 65535, none}, {0o112021}, {0o077103}, {0o004737, 8}} {
		m := with(machineOf(256), 60, words...)
		x := micro(60, words...)
		eachNumber(reflect.ValueOf(&x).Elem(), "", func(name string, v reflect.Value) {
			checkFresh(t, m, x, true)
			undo := change(v)
			checkFresh(t, m, x, false)
			undo()
		})
		checkFresh(t, m, x, true)
	}
}

func TestFreshEveryWord(t *testing.T) {
	m := machineOf(256, nop, nop, 3, 4)
	fresh := 0
	for w := range 65536 {
		m.Mem[1] = w
		i, length := inst.Decode([]int{w, 3, 4})
		for n := range 4 {
			want := n > 0 && n == length
			checkFresh(t, m, api.Micro{At: 2, Words: m.Mem[1 : 1+n], Inst: i}, want)
			if want {
				fresh++
				// Without the fresh words the same instruction is not fresh.
				checkFresh(t, m, api.Micro{At: 2, Words: []int{w ^ 1, 3, 4}[:n], Inst: i}, false)
				checkFresh(t, m, api.Micro{At: 2, Words: m.Mem[1 : 1+n]}, false)
			}
		}
	}
	if fresh < 50000 {
		t.Errorf("fresh %d times", fresh)
	}
}
