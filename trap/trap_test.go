package trap_test

import (
	"math"
	"slices"
	"testing"

	"emulator/api"
	"emulator/trap"
)

// traps has what the document says of the traps, by their constants.
var traps = []struct {
	trap   api.Trap
	vector int
	name   string
	aborts bool
}{
	{api.TrBus, 4, "bus", true},
	{api.TrIllegal, 8, "illegal", true},
	{api.TrBpt, 12, "bpt", false},
	{api.TrIot, 16, "iot", false},
	{api.TrPower, 20, "power", false},
	{api.TrEmt, 24, "emt", false},
	{api.TrTrap, 28, "trap", false},
	{api.TrMmu, 32, "mmu", true},
	{api.TrParity, 36, "parity", true},
}

// farInts has integers far from the traps and from the vectors, some of which become one of them when they are cut to fewer bits or multiplied.
var farInts = []int{math.MinInt, math.MinInt + 1, math.MinInt + 4, math.MinInt + 9, math.MinInt + 36, -1 << 62, -1<<62 + 1, -1<<62 + 4, -1 << 32, -1<<32 + 1, -1<<32 + 4, -1<<32 + 36, -1 << 31, -65536, -65535, -65532, -65500, -32768, -256, -255, -252, -220,
	256 + 1, 256 + 4, 256 + 36, 32767, 32768, 65535, 65536, 65536 + 1, 65536 + 4, 65536 + 36, 1<<31 - 1, 1 << 31, 1<<31 + 4, 1 << 32, 1<<32 + 1, 1<<32 + 4, 1<<32 + 9, 1<<32 + 36, 1 << 40, 1 << 61, 1<<61 + 4, 1 << 62, 1<<62 + 1, 1<<62 + 4, 1<<62 + 9, math.MaxInt - 36, math.MaxInt - 4, math.MaxInt - 1, math.MaxInt}

// otherTraps returns numbers that are no traps, among them the vectors that are not also numbers of traps.
func otherTraps() []api.Trap {
	all := []api.Trap{api.TrNone}
	for n := 1; n <= 1000; n++ {
		all = append(all, api.Trap(-n), api.Trap(9+n))
	}
	for _, n := range farInts {
		all = append(all, api.Trap(n))
	}
	return all
}

// interrupts returns the vectors of the devices.
func interrupts() []int {
	all := []int{64, 160, 164}
	for i := range api.MaxLines {
		all = append(all, 128+8*i, 132+8*i)
	}
	return all
}

// otherVectors returns addresses that are no vectors of traps.
func otherVectors() []int {
	all := append(interrupts(), farInts...)
	for v := -1000; v <= 1000; v++ {
		if v < 4 || v > 36 || v%4 != 0 {
			all = append(all, v)
		}
	}
	return all
}

// P11.1: Vector and ByVector.

func TestVector(t *testing.T) {
	for _, k := range traps {
		if v := trap.Vector(k.trap); v != k.vector {
			t.Errorf("Vector(%d) = %d, want %d", k.trap, v, k.vector)
		}
	}
}

func TestVectorOfOtherNumbers(t *testing.T) {
	for _, k := range otherTraps() {
		if v := trap.Vector(k); v != 0 {
			t.Errorf("Vector(%d) = %d, want 0", k, v)
		}
	}
}

func TestByVector(t *testing.T) {
	for _, k := range traps {
		if got, ok := trap.ByVector(k.vector); got != k.trap || !ok {
			t.Errorf("ByVector(%d) = %d, %v, want %d, true", k.vector, got, ok, k.trap)
		}
	}
}

func TestByVectorOfOtherAddresses(t *testing.T) {
	for _, v := range otherVectors() {
		if got, ok := trap.ByVector(v); got != api.TrNone || ok {
			t.Errorf("ByVector(%d) = %d, %v, want 0, false", v, got, ok)
		}
	}
}

// P11.2: Vectors.

func TestVectors(t *testing.T) {
	checkVectors(t, "at first")
}

// checkVectors checks what Vectors returns after something has happened.
func checkVectors(t *testing.T, when string) {
	t.Helper()
	if got := trap.Vectors(); !slices.Equal(got, []int{4, 8, 12, 16, 20, 24, 28, 32, 36}) {
		t.Errorf("Vectors %s: %v", when, got)
	}
}

func TestVectorsReturnsNewMemory(t *testing.T) {
	first, second := trap.Vectors(), trap.Vectors()
	for i := range first {
		first[i] = 1000 + i
	}
	first = first[:cap(first)]
	clear(first)
	_ = append(second[:3], 7, 7, 7)
	checkVectors(t, "after its lists were overwritten")
	if second[0] != 4 || second[8] != 36 {
		t.Error("two lists share memory:", second)
	}
	for _, k := range traps {
		if got, ok := trap.ByVector(k.vector); got != k.trap || !ok || trap.Vector(k.trap) != k.vector {
			t.Errorf("after lists were overwritten, ByVector(%d) = %d, %v, and Vector(%d) = %d", k.vector, got, ok, k.trap, trap.Vector(k.trap))
		}
	}
}

// P11.3: Name.

func TestName(t *testing.T) {
	for _, k := range traps {
		if s := trap.Name(k.trap); s != k.name {
			t.Errorf("Name(%d) = %q, want %q", k.trap, s, k.name)
		}
	}
}

func TestNameOfOtherNumbers(t *testing.T) {
	for _, k := range otherTraps() {
		if s := trap.Name(k); s != "" {
			t.Errorf("Name(%d) = %q, want an empty text", k, s)
		}
	}
}

// P11.4: Aborts.

func TestAborts(t *testing.T) {
	for _, k := range traps {
		if got := trap.Aborts(k.trap); got != k.aborts {
			t.Errorf("Aborts(%d) = %v, want %v", k.trap, got, k.aborts)
		}
	}
}

func TestAbortsOfOtherNumbers(t *testing.T) {
	for _, k := range otherTraps() {
		if trap.Aborts(k) {
			t.Errorf("Aborts(%d) is true", k)
		}
	}
}

// P11.5: the consequences.

func TestByVectorOfVector(t *testing.T) {
	for k := api.TrBus; k <= api.TrParity; k++ {
		if got, ok := trap.ByVector(trap.Vector(k)); got != k || !ok {
			t.Errorf("ByVector(Vector(%d)) = %d, %v", k, got, ok)
		}
	}
}

func TestVectorOfByVector(t *testing.T) {
	found := 0
	for v := -100; v <= 70000; v++ {
		k, ok := trap.ByVector(v)
		if ok && trap.Vector(k) != v {
			t.Errorf("ByVector(%d) = %d, whose vector is %d", v, k, trap.Vector(k))
		}
		if ok != slices.Contains(trap.Vectors(), v) {
			t.Errorf("ByVector(%d) = %d, %v, but Vectors has %v", v, k, ok, trap.Vectors())
		}
		if ok {
			found++
		}
	}
	if found != 9 {
		t.Errorf("%d addresses are vectors, want 9", found)
	}
}

func TestTrapsDiffer(t *testing.T) {
	for a := api.TrBus; a <= api.TrParity; a++ {
		for b := api.TrBus; b < a; b++ {
			if trap.Name(a) == trap.Name(b) || trap.Vector(a) == trap.Vector(b) {
				t.Errorf("%d and %d: the names %q and %q, the vectors %d and %d", a, b, trap.Name(a), trap.Name(b), trap.Vector(a), trap.Vector(b))
			}
		}
	}
}

// The examples of the chapter.

func TestExamples(t *testing.T) {
	if v := trap.Vector(api.TrIot); v != 16 {
		t.Error("example 1: Vector(TrIot) is", v)
	}
	if k, ok := trap.ByVector(16); k != api.TrIot || !ok {
		t.Error("example 1: ByVector(16) is", k, ok)
	}
	if k, ok := trap.ByVector(14); k != api.TrNone || ok {
		t.Error("example 1: ByVector(14) is", k, ok)
	}
	if mmu, none := trap.Name(api.TrMmu), trap.Name(api.TrNone); mmu != "mmu" || none != "" {
		t.Error("example 2:", mmu, none)
	}
	if trap.Aborts(api.TrEmt) || !trap.Aborts(api.TrParity) {
		t.Error("example 3:", trap.Aborts(api.TrEmt), trap.Aborts(api.TrParity))
	}
}
