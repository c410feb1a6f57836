package machine_test

import (
	"reflect"
	"slices"
	"strings"
	"testing"

	"emulator/api"
	"emulator/machine"
)

// built returns the machine that New promises for sizes that are allowed.
func built(size, lines, sectors int) api.Machine {
	m := api.Machine{Mem: make([]int, size/2), Clock: api.Clock{Period: 100, Left: 100}}
	for range lines {
		m.Lines = append(m.Lines, api.Line{TxReady: true})
	}
	m.Disk = api.Disk{Drive: api.Drive{Sectors: slices.Repeat([]string{strings.Repeat("\x00", 128)}, sectors)}, Ready: true}
	m.Tape = api.Tape{Ready: true}
	return m
}

// P20.1: New. The tests of Right and Copy are in right_test.go and sharing_test.go.

func TestNew(t *testing.T) {
	for _, size := range []int{256, 320, 4096, 32704, 32768} {
		for lines := range 5 {
			for _, sectors := range []int{1, 2, 64, 255, 256} {
				m, e := machine.New(size, lines, sectors)
				if e != api.OK || !reflect.DeepEqual(kept(m), built(size, lines, sectors)) {
					t.Errorf("New(%d, %d, %d) returns another machine, error %d", size, lines, sectors, e)
				}
				if !machine.Right(m) {
					t.Errorf("New(%d, %d, %d) is not valid", size, lines, sectors)
				}
			}
		}
	}
}

func TestNewWithEveryNumber(t *testing.T) {
	expect := func(size, lines, sectors int, want api.Errno) {
		t.Helper()
		m, e := machine.New(size, lines, sectors)
		if e != want {
			t.Fatalf("New(%d, %d, %d): error %d, want %d", size, lines, sectors, e, want)
		}
		if want != api.OK && !reflect.DeepEqual(m, api.Machine{}) {
			t.Fatalf("New(%d, %d, %d) returns a machine with an error", size, lines, sectors)
		}
	}
	var numbers []int
	for n := -300; n <= 600; n++ {
		numbers = append(numbers, n)
	}
	numbers = append(numbers, 32700, 32704, 32767, 32768, 32769, 32832, 65536)
	for _, n := range append(numbers, farInts...) {
		want := api.OK
		if n < 256 || n > 32768 || n%64 != 0 {
			want = api.ErrArg
		}
		expect(n, 1, 1, want)
		expect(n, 5, 0, map[bool]api.Errno{true: api.ErrRange, false: api.ErrArg}[want == api.OK])
		want = api.OK
		if n < 0 || n > 4 {
			want = api.ErrRange
		}
		expect(256, n, 1, want)
		expect(255, n, 1, api.ErrArg)
		want = api.OK
		if n < 1 || n > 256 {
			want = api.ErrRange
		}
		expect(256, 1, n, want)
		expect(257, 1, n, api.ErrArg)
	}
}

func TestNewMachinesShareNothing(t *testing.T) {
	a, _ := machine.New(256, 2, 3)
	a.Mem[0], a.Lines[0].RxData, a.Disk.Drive.Sectors[0] = 5, 6, "x"
	if b, _ := machine.New(256, 2, 3); !reflect.DeepEqual(kept(b), built(256, 2, 3)) {
		t.Error("a new machine has what was written to another one")
	}
}
