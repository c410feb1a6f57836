package arbiter_test

import (
	"math"
	"slices"
	"testing"

	"emulator/api"
	"emulator/arbiter"
)

// request returns the request with a priority and a vector.
func request(priority, vector int) api.Request {
	return api.Request{Priority: priority, Vector: vector}
}

// requests returns the requests whose priorities and vectors follow one another.
func requests(numbers ...int) []api.Request {
	var l []api.Request
	for i := 0; i < len(numbers); i += 2 {
		l = append(l, request(numbers[i], numbers[i+1]))
	}
	return l
}

// orderOfVectors returns all vectors in the order in which the document lets them be served at one priority.
func orderOfVectors() []int {
	all := []int{64, 160, 164}
	for v := 4; v <= 252; v += 4 {
		if v != 64 && v != 160 && v != 164 {
			all = append(all, v)
		}
	}
	return all
}

// served returns all valid requests in the order in which they are served.
func served() []api.Request {
	var all []api.Request
	for priority := 7; priority >= 1; priority-- {
		for _, v := range orderOfVectors() {
			all = append(all, request(priority, v))
		}
	}
	return all
}

// farInts has integers far from priorities and vectors, many of which become one of them when they are cut to fewer bits.
var farInts = []int{math.MinInt, math.MinInt + 1, math.MinInt + 4, math.MinInt + 7, math.MinInt + 64, -1 << 62, -1<<62 + 4, -1<<62 + 64, -1 << 40, -1 << 32, -1<<32 + 1, -1<<32 + 4, -1<<32 + 160, -1 << 31, -1<<31 + 4, -65536, -65535, -65532, -65472, -32768, -1024, -512,
	1024 + 4, 32767, 32768, 65535, 65536, 65536 + 4, 65536 + 7, 65536 + 64, 1<<31 - 4, 1<<31 - 1, 1 << 31, 1<<31 + 4, 1 << 32, 1<<32 + 1, 1<<32 + 4, 1<<32 + 7, 1<<32 + 64, 1<<32 + 252, 1 << 40, 1 << 62, 1<<62 + 1, 1<<62 + 4, 1<<62 + 164, math.MaxInt - 3, math.MaxInt - 1, math.MaxInt}

// wrongPriorities and wrongVectors return numbers that no valid request has.
func wrongPriorities() []int {
	all := append([]int{}, farInts...)
	for n := range 600 {
		all = append(all, -n, 8+n)
	}
	return all
}

func wrongVectors() []int {
	all := append([]int{}, farInts...)
	for v := -600; v <= 1000; v++ {
		if v < 4 || v > 252 || v%4 != 0 {
			all = append(all, v)
		}
	}
	return all
}

// wrongRequests returns requests that are not valid, because of one of their numbers or of both.
func wrongRequests() []api.Request {
	var all []api.Request
	for _, priority := range []int{0, -1, -4, -7, -8, 8, 9, 12, 255, 260, math.MinInt, math.MaxInt, 1<<32 + 4} {
		for _, v := range []int{64, 160, 164, 4, 252, 128, 0, 256, 66, -64, math.MaxInt} {
			all = append(all, request(priority, v))
		}
	}
	for priority := 1; priority <= 7; priority++ {
		for _, v := range []int{0, 1, 2, 3, 5, 6, 62, 63, 65, 66, 161, 162, 165, 250, 251, 253, 254, 255, 256, 320, -1, -4, -64, -160, math.MinInt, math.MinInt + 64, math.MaxInt, 65536 + 64, 1<<32 + 160} {
			all = append(all, request(priority, v))
		}
	}
	return all
}

// strided returns the elements of a list in another order. The step must share no factor with the length.
func strided(l []api.Request, step int) []api.Request {
	var other []api.Request
	for i := range l {
		other = append(other, l[i*step%len(l)])
	}
	return other
}

// reversed returns the elements of a list from the last one on.
func reversed(l []api.Request) []api.Request {
	other := slices.Clone(l)
	slices.Reverse(other)
	return other
}

// joined returns the elements of several lists.
func joined(lists ...[]api.Request) []api.Request {
	return slices.Concat(lists...)
}

// shortCases has lists and their sorted requests, written by hand.
var shortCases = []struct{ list, want []api.Request }{
	{nil, nil},
	{[]api.Request{}, nil},
	{requests(4, 128), requests(4, 128)},
	{requests(1, 4), requests(1, 4)},
	{requests(7, 252), requests(7, 252)},
	{requests(0, 64), nil}, // not valid
	{requests(8, 64), nil},
	{requests(4, 0), nil},
	{requests(4, 256), nil},
	{requests(4, 254), nil},
	{requests(0, 0), nil},
	{requests(-1, 64, 4, -64, 9, 160, 4, 65), nil},
	{requests(5, 164, 5, 160, 4, 128, 9, 64), requests(5, 160, 5, 164, 4, 128)}, // an example
	{requests(4, 128, 6, 64), requests(6, 64, 4, 128)},                          // the priority is more than the vector
	{requests(1, 64, 7, 252), requests(7, 252, 1, 64)},
	{requests(3, 160, 2, 64, 5, 164, 4, 4), requests(5, 164, 4, 4, 3, 160, 2, 64)},
	{requests(7, 4, 1, 4, 6, 4, 2, 4, 5, 4, 3, 4, 4, 4), requests(7, 4, 6, 4, 5, 4, 4, 4, 3, 4, 2, 4, 1, 4)},
	{requests(4, 4, 4, 60, 4, 64, 4, 68, 4, 156, 4, 160, 4, 164, 4, 168, 4, 252), requests(4, 64, 4, 160, 4, 164, 4, 4, 4, 60, 4, 68, 4, 156, 4, 168, 4, 252)}, // 64, 160 and 164 among others
	{requests(5, 164, 5, 160, 5, 64), requests(5, 64, 5, 160, 5, 164)},
	{requests(5, 4, 5, 164), requests(5, 164, 5, 4)},
	{requests(5, 252, 5, 160), requests(5, 160, 5, 252)},
	{requests(2, 4, 3, 164, 2, 164, 3, 4, 3, 160, 2, 64), requests(3, 160, 3, 164, 3, 4, 2, 64, 2, 164, 2, 4)}, // at several priorities
	{requests(4, 100, 4, 8, 4, 20, 4, 200, 4, 96), requests(4, 8, 4, 20, 4, 96, 4, 100, 4, 200)},               // ascending as numbers, not as texts
	{requests(4, 128, 4, 128), requests(4, 128, 4, 128)},                                                       // equal ones are kept
	{requests(4, 128, 5, 160, 4, 128, 5, 160, 4, 128, 5, 160), requests(5, 160, 5, 160, 5, 160, 4, 128, 4, 128, 4, 128)},
	{requests(6, 64, 0, 0, 6, 64, 4, 65, 6, 64), requests(6, 64, 6, 64, 6, 64)},
	{requests(8, 4, 4, 132, 0, 8, 4, 256, 4, 128), requests(4, 128, 4, 132)}, // valid ones among others
}

// longCases returns long lists, each of which has every valid request as often as another one, and the number of times.
func longCases() (lists [][]api.Request, times []int) {
	all, wrong := served(), wrongRequests()
	lists = [][]api.Request{all, reversed(all), strided(all, 100), strided(all, 220), joined(all, wrong), joined(wrong, strided(all, 13)), joined(all, all), joined(strided(all, 2), wrong, reversed(all), wrong, strided(all, 302))}
	return lists, []int{1, 1, 1, 1, 1, 1, 2, 3}
}

// repeated returns a list with each element of another one several times.
func repeated(l []api.Request, times int) []api.Request {
	var all []api.Request
	for _, q := range l {
		all = append(all, slices.Repeat([]api.Request{q}, times)...)
	}
	return all
}

// someLists returns lists of all sorts.
func someLists() [][]api.Request {
	all, _ := longCases()
	for _, k := range shortCases {
		all = append(all, k.list)
	}
	return append(all, wrongRequests())
}

// P12.1: Valid.

func TestValidCases(t *testing.T) {
	for _, k := range []struct {
		priority, vector int
		want             bool
	}{
		{1, 4, true}, {1, 252, true}, {7, 4, true}, {7, 252, true}, {4, 128, true}, {6, 64, true}, {5, 160, true}, {5, 164, true}, {3, 8, true}, {2, 248, true},
		{0, 64, false}, {8, 64, false}, {-1, 64, false}, {9, 64, false}, // priorities
		{4, 0, false}, {4, 256, false}, {4, 3, false}, {4, 1, false}, {4, 253, false}, {4, 255, false}, {4, 260, false}, // vectors
		{4, 5, false}, {4, 6, false}, {4, 7, false}, {4, 129, false}, {4, 130, false}, {4, 131, false}, {4, 250, false}, {4, 254, false}, // no multiples of 4
		{0, 0, false}, {8, 256, false}, {0, 256, false}, {8, 0, false}, // both
		{-4, 128, false}, {4, -128, false}, {-4, -128, false}, {4, -4, false}, {-7, 4, false},
		{math.MaxInt, 64, false}, {math.MinInt, 64, false}, {4, math.MaxInt, false}, {4, math.MinInt, false}, {4, math.MinInt + 64, false}, {math.MinInt + 4, 64, false}, {math.MaxInt, math.MaxInt, false}, {math.MinInt, math.MinInt, false},
		{1<<32 + 4, 64, false}, {4, 1<<32 + 64, false}, {65536 + 4, 64, false}, {4, 65536 + 64, false}, {256 + 4, 64, false}, {4, 256 + 64, false},
	} {
		if got := arbiter.Valid(request(k.priority, k.vector)); got != k.want {
			t.Errorf("Valid({%d %d}) = %v, want %v", k.priority, k.vector, got, k.want)
		}
	}
}

func TestValidOfAllValidRequests(t *testing.T) {
	all := served()
	if len(all) != 7*63 {
		t.Fatalf("there are %d valid requests, want 441", len(all))
	}
	for _, q := range all {
		if !arbiter.Valid(q) {
			t.Errorf("Valid(%v) = false", q)
		}
	}
}

func TestValidOfOtherRequests(t *testing.T) {
	for _, priority := range wrongPriorities() {
		for _, v := range orderOfVectors() {
			if arbiter.Valid(request(priority, v)) {
				t.Fatalf("Valid({%d %d}) = true", priority, v)
			}
		}
	}
	for _, v := range wrongVectors() {
		for priority := -10; priority <= 20; priority++ {
			if arbiter.Valid(request(priority, v)) {
				t.Fatalf("Valid({%d %d}) = true", priority, v)
			}
		}
	}
	for _, priority := range farInts {
		for _, v := range farInts {
			if arbiter.Valid(request(priority, v)) {
				t.Fatalf("Valid({%d %d}) = true", priority, v)
			}
		}
	}
}

// P12.2: Sort.

func TestSortCases(t *testing.T) {
	for _, k := range shortCases {
		if got := arbiter.Sort(k.list); !slices.Equal(got, k.want) {
			t.Errorf("Sort(%v) = %v, want %v", k.list, got, k.want)
		}
	}
}

func TestSortOfLongLists(t *testing.T) {
	lists, times := longCases()
	for i, l := range lists {
		if got, want := arbiter.Sort(l), repeated(served(), times[i]); !slices.Equal(got, want) {
			t.Errorf("list %d: %d requests are sorted to %d, want %d: %v", i, len(l), len(got), len(want), got)
		}
	}
}

func TestSortOfTwo(t *testing.T) {
	all := served()
	for i, first := range all {
		for _, second := range all[i:] {
			want := []api.Request{first, second}
			for _, l := range [][]api.Request{{first, second}, {second, first}} {
				if got := arbiter.Sort(l); !slices.Equal(got, want) {
					t.Fatalf("Sort(%v) = %v, want %v", l, got, want)
				}
			}
		}
	}
}

func TestSortLeavesOutWhatIsNotValid(t *testing.T) {
	valid := request(3, 128)
	for _, q := range wrongRequests() {
		for _, k := range []struct{ list, want []api.Request }{
			{[]api.Request{q}, nil}, {[]api.Request{q, q}, nil}, {[]api.Request{q, valid}, []api.Request{valid}}, {[]api.Request{valid, q}, []api.Request{valid}}, {[]api.Request{valid, q, valid}, []api.Request{valid, valid}},
		} {
			if got := arbiter.Sort(k.list); !slices.Equal(got, k.want) {
				t.Fatalf("Sort(%v) = %v, want %v", k.list, got, k.want)
			}
		}
	}
}

// P12.3: Best.

func TestBestCases(t *testing.T) {
	for _, k := range shortCases {
		want, found := api.Request{}, false
		if len(k.want) > 0 {
			want, found = k.want[0], true
		}
		if got, ok := arbiter.Best(k.list); got != want || ok != found {
			t.Errorf("Best(%v) = %v, %v, want %v, %v", k.list, got, ok, want, found)
		}
	}
}

func TestBestOfTwo(t *testing.T) {
	all := served()
	for i, first := range all {
		for _, second := range all[i:] {
			for _, l := range [][]api.Request{{first, second}, {second, first}} {
				if got, ok := arbiter.Best(l); got != first || !ok {
					t.Fatalf("Best(%v) = %v, %v, want %v, true", l, got, ok, first)
				}
			}
		}
	}
}

func TestBestOfLongLists(t *testing.T) {
	all := served()
	for i, first := range all {
		rest := all[i:]
		for _, l := range [][]api.Request{rest, reversed(rest), joined(wrongRequests(), rest), joined(reversed(rest), wrongRequests())} {
			if got, ok := arbiter.Best(l); got != first || !ok {
				t.Fatalf("Best of the requests from %v on = %v, %v", first, got, ok)
			}
		}
	}
}

func TestBestWhereNoneIsValid(t *testing.T) {
	lists := [][]api.Request{nil, {}, wrongRequests(), reversed(wrongRequests())}
	for _, q := range wrongRequests() {
		lists = append(lists, []api.Request{q}, []api.Request{q, q})
	}
	for _, l := range lists {
		if got, ok := arbiter.Best(l); got != (api.Request{}) || ok {
			t.Fatalf("Best(%v) = %v, %v, want none", l, got, ok)
		}
	}
}

// P12.4: Grant.

// otherBits has integers whose bits 5 to 7 are 0: other bits of a processor status word that exist, bits that do not, negative and very large words.
var otherBits = []int{0, 1, 8, 15, 16, 31, 256, 0x3F00, 0x4000, 0x8000, 0xC000, 0xC01F, 0xC00F, 0xFF1F, 65536, 65536 + 31, 1 << 31, 1 << 32, 1<<32 + 16, 1 << 40, 1 << 62, math.MaxInt - 224, math.MaxInt - 255, math.MinInt, math.MinInt + 31, -1 << 62, -1 << 32, -1 << 31, -65536, -65536 + 31, -32768, -256, -225}

// checkGrant compares with the first one of a sorted list, if its priority is greater.
func checkGrant(t *testing.T, l, sorted []api.Request, priority, w int) {
	t.Helper()
	want, found := api.Request{}, false
	if len(sorted) > 0 && sorted[0].Priority > priority {
		want, found = sorted[0], true
	}
	if got, ok := arbiter.Grant(l, w); got != want || ok != found {
		t.Fatalf("Grant(%v, %#x) = %v, %v, want %v, %v", l, w, got, ok, want, found)
	}
}

func TestGrantCases(t *testing.T) {
	for _, k := range []struct {
		list []api.Request
		psw  int
		want api.Request
		ok   bool
	}{
		{requests(4, 128, 6, 64), 0, request(6, 64), true}, {requests(4, 128, 6, 64), 160, request(6, 64), true}, {requests(4, 128, 6, 64), 192, api.Request{}, false}, {requests(4, 128, 6, 64), 224, api.Request{}, false},
		{requests(1, 4), 0, request(1, 4), true}, {requests(1, 4), 31, request(1, 4), true}, {requests(1, 4), 32, api.Request{}, false}, {requests(1, 4), 63, api.Request{}, false},
		{requests(7, 252), 192, request(7, 252), true}, {requests(7, 252), 223, request(7, 252), true}, {requests(7, 252), 224, api.Request{}, false},
		{requests(6, 64), 0xC00F, request(6, 64), true}, {requests(6, 64), 0xFF1F, request(6, 64), true}, {requests(6, 64), 0xC0CF, api.Request{}, false}, {requests(6, 64), 0xC0AF, request(6, 64), true}, // other bits
		{requests(6, 64), -1, api.Request{}, false}, {requests(6, 64), -225, request(6, 64), true}, {requests(6, 64), -33, api.Request{}, false}, {requests(6, 64), -64, api.Request{}, false}, {requests(6, 64), -65, request(6, 64), true}, {requests(6, 64), -96, request(6, 64), true}, // negative words
		{requests(6, 64), 65536, request(6, 64), true}, {requests(6, 64), 65536 + 192, api.Request{}, false}, {requests(6, 64), math.MaxInt, api.Request{}, false}, {requests(6, 64), math.MinInt, request(6, 64), true}, {requests(6, 64), math.MinInt + 192, api.Request{}, false},
		{nil, 0, api.Request{}, false}, {[]api.Request{}, 0, api.Request{}, false}, {requests(0, 64), 0, api.Request{}, false}, {requests(8, 64), 0, api.Request{}, false}, {requests(8, 64), 224, api.Request{}, false}, {requests(7, 254, 9, 64), 0, api.Request{}, false}, // no valid request
		{requests(8, 64, 4, 128, 7, 0), 96, request(4, 128), true}, {requests(8, 64, 4, 128, 7, 0), 128, api.Request{}, false},
		{requests(4, 128, 4, 64, 4, 128), 96, request(4, 64), true},
	} {
		if got, ok := arbiter.Grant(k.list, k.psw); got != k.want || ok != k.ok {
			t.Errorf("Grant(%v, %#x) = %v, %v, want %v, %v", k.list, k.psw, got, ok, k.want, k.ok)
		}
	}
}

func TestGrantOfOneRequest(t *testing.T) {
	for _, q := range served() {
		l := []api.Request{q}
		for priority := range 8 {
			for _, bits := range otherBits {
				checkGrant(t, l, l, priority, bits+32*priority)
			}
		}
	}
}

func TestGrantOfLists(t *testing.T) {
	for _, k := range shortCases {
		for w := range 65536 {
			checkGrant(t, k.list, k.want, w/32%8, w)
		}
	}
}

func TestGrantWhereNoneIsValid(t *testing.T) {
	for _, q := range wrongRequests() {
		for priority := range 8 {
			for _, bits := range otherBits {
				checkGrant(t, []api.Request{q}, nil, priority, bits+32*priority)
			}
		}
	}
}

// Arguments and results are lists that share no memory.

func TestArgumentsStayAsTheyAre(t *testing.T) {
	for _, l := range someLists() {
		// The memory behind the end of a list is not part of it, and stays as it is too.
		whole := joined(l, requests(7, 64, 1, 4, 9, 9))
		before := slices.Clone(whole)
		part := whole[:len(l)]
		arbiter.Sort(part)
		arbiter.Best(part)
		arbiter.Grant(part, 0)
		if !slices.Equal(whole, before) {
			t.Fatalf("the list %v has become %v", before, whole)
		}
	}
}

func TestSortReturnsNewMemory(t *testing.T) {
	for _, l := range append(someLists(), served()[:5], served()[7:8]) {
		list, want := slices.Clone(l), slices.Clone(arbiter.Sort(l))
		first, second := arbiter.Sort(list), arbiter.Sort(list)
		overwrite(first[:cap(first)])
		if !slices.Equal(list, l) || !slices.Equal(second, want) {
			t.Fatalf("Sort(%v) shares memory with its argument or with another result", l)
		}
		overwrite(list)
		if !slices.Equal(second, want) {
			t.Fatalf("Sort(%v) shares memory with its argument", l)
		}
	}
}

// overwrite changes all elements of a list.
func overwrite(l []api.Request) {
	for i := range l {
		l[i] = request(-1, -1)
	}
}

// P12.5: the consequences.

// eachOrder calls a function with the list in all of its orders, in which the elements before a place stay where they are.
func eachOrder(l []api.Request, place int, visit func(l []api.Request)) {
	if place == len(l) {
		visit(l)
		return
	}
	for i := place; i < len(l); i++ {
		l[place], l[i] = l[i], l[place]
		eachOrder(l, place+1, visit)
		l[place], l[i] = l[i], l[place]
	}
}

func TestOrderDoesNotMatter(t *testing.T) {
	for _, k := range []struct{ list, want []api.Request }{
		{requests(5, 160, 5, 164, 4, 128, 9, 64), requests(5, 160, 5, 164, 4, 128)},
		{requests(4, 64, 4, 160, 4, 164, 4, 4, 4, 128, 4, 252), requests(4, 64, 4, 160, 4, 164, 4, 4, 4, 128, 4, 252)},
		{requests(7, 128, 7, 128, 6, 64, 6, 64, 1, 164, 0, 64), requests(7, 128, 7, 128, 6, 64, 6, 64, 1, 164)},
		{requests(2, 64, 2, 8, 3, 8, 3, 160, 8, 8, 3, 9, 3, 164), requests(3, 160, 3, 164, 3, 8, 2, 64, 2, 8)},
	} {
		eachOrder(slices.Clone(k.list), 0, func(l []api.Request) {
			if got := arbiter.Sort(l); !slices.Equal(got, k.want) {
				t.Fatalf("Sort(%v) = %v, want %v", l, got, k.want)
			}
			if got, ok := arbiter.Best(l); got != k.want[0] || !ok {
				t.Fatalf("Best(%v) = %v, %v, want %v", l, got, ok, k.want[0])
			}
			for priority := range 8 {
				checkGrant(t, l, k.want, priority, 32*priority)
			}
		})
	}
}

func TestBestIsTheFirstOfSort(t *testing.T) {
	for _, l := range someLists() {
		sorted := arbiter.Sort(l)
		best, found := arbiter.Best(l)
		if found != (len(sorted) > 0) || found && best != sorted[0] {
			t.Errorf("Best(%v) = %v, %v, but it is sorted to %v", l, best, found, sorted)
		}
	}
}

func TestNothingIsGrantedAtPriority7(t *testing.T) {
	for _, l := range someLists() {
		for _, bits := range otherBits {
			if q, ok := arbiter.Grant(l, bits+224); q != (api.Request{}) || ok {
				t.Fatalf("Grant(%v, %#x) = %v, %v", l, bits+224, q, ok)
			}
		}
	}
}

func TestGrantedAtSmallerPriorities(t *testing.T) {
	for _, l := range someLists() {
		for priority := 1; priority < 8; priority++ {
			q, ok := arbiter.Grant(l, 32*priority)
			if !ok {
				continue
			}
			for smaller := range priority {
				if got, found := arbiter.Grant(l, 32*smaller); got != q || !found {
					t.Fatalf("Grant(%v) = %v at priority %d, but %v, %v at %d", l, q, priority, got, found, smaller)
				}
			}
		}
	}
}

// The examples of the chapter.

func TestExamples(t *testing.T) {
	l := requests(5, 164, 5, 160, 4, 128, 9, 64)
	if got, want := arbiter.Sort(l), requests(5, 160, 5, 164, 4, 128); !slices.Equal(got, want) {
		t.Errorf("example 1: %v, want %v", got, want)
	}
	if got, ok := arbiter.Grant(l, 128); got != request(5, 160) || !ok {
		t.Error("example 2: at priority 4", got, ok)
	}
	if got, ok := arbiter.Grant(l, 160); got != (api.Request{}) || ok {
		t.Error("example 2: at priority 5", got, ok)
	}
}
