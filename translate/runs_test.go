package translate_test

import (
	"slices"
	"testing"

	"emulator/api"
	"emulator/inst"
	"emulator/translate"
)

// P21.7, and all promises in runs of calls.

// state is a machine and a cache, with the blocks that the cache must have, by their Starts.
type state struct {
	m       api.Machine
	c       api.Cache
	blocks  map[int]api.Block
	made    int
	dropped int
}

// want returns the cache that the state must have.
func (s *state) want() api.Cache {
	c := api.Cache{Made: s.made, Used: 17, Dropped: s.dropped}
	for at := 0; at < 2*len(s.m.Mem); at += 2 {
		if b, ok := s.blocks[at]; ok {
			c.Blocks = append(c.Blocks, b)
		}
	}
	return c
}

// add adds a block.
func (s *state) add(b api.Block) {
	s.c = translate.Add(s.c, b)
	if len(b.Code) == 0 {
		return
	}
	s.blocks[b.Start] = b
	s.made++
	if len(s.blocks) <= maxBlocks {
		return
	}
	s.dropped++
	for at := 0; ; at += 2 {
		if _, ok := s.blocks[at]; ok && at != b.Start {
			delete(s.blocks, at)
			return
		}
	}
}

// stale reports whether a block has an instruction that is not what the memory contains.
func (s *state) stale(b api.Block) bool {
	for _, x := range b.Code {
		for k, w := range x.Words {
			if s.m.Mem[x.At/2+k] != w || slices.Contains(s.m.Bad, x.At+2*k) {
				return true
			}
		}
	}
	return false
}

// drop drops the stale blocks, and returns their number.
func (s *state) drop() int {
	s.c = translate.Drop(s.m, s.c)
	n := 0
	for at, b := range s.blocks {
		if s.stale(b) {
			delete(s.blocks, at)
			n++
		}
	}
	s.dropped += n
	return n
}

// valid reports whether no block is stale.
func (s *state) valid() bool {
	for _, b := range s.blocks {
		if s.stale(b) {
			return false
		}
	}
	return true
}

// change changes a word of memory, or its parity. A word that is written has right parity; it need not be another word.
func (s *state) change(next func(limit int) int) {
	at := 2 * next(len(s.m.Mem))
	s.m = spoilt(s.m, slices.DeleteFunc(slices.Clone(s.m.Bad), func(a int) bool { return a == at })...)
	if next(3) == 0 {
		s.m = spoilt(s.m, append(s.m.Bad, at)...)
	} else {
		s.m = with(s.m, at, randomWord(next))
	}
}

// check checks the cache, and that everything in a valid one is what inst.Decode gives.
func (s *state) check(t *testing.T) {
	t.Helper()
	if want := s.want(); !sameCache(s.c, want) {
		t.Fatalf("blocks from %v on, %d, %d, %d, want %v, %d, %d, %d", starts(s.c), s.c.Made, s.c.Used, s.c.Dropped, starts(want), want.Made, want.Used, want.Dropped)
	}
	valid := s.valid()
	if translate.Right(s.m, s.c) != valid {
		t.Fatalf("valid: %v", !valid)
	}
	if !valid {
		return
	}
	if d := translate.Drop(s.m, s.c); !sameCache(d, s.c) {
		t.Fatal("a valid cache has changed")
	}
	for at := -1; at <= 2*len(s.m.Mem); at++ {
		x, ok := translate.Find(s.c, at)
		if !ok {
			continue
		}
		if i, n := inst.Decode(s.m.Mem[at/2:]); x.At != at || x.Inst != i || !slices.Equal(x.Words, s.m.Mem[at/2:at/2+n]) || n == 0 {
			t.Fatalf("at %d: %+v", at, x)
		}
	}
}

func TestRuns(t *testing.T) {
	droppedAtOnce, full := map[int]int{}, 0
	for seed := range 30 {
		next := numbers(100 + seed)
		s := state{m: randomMachine(next), c: api.Cache{Used: 17}, blocks: map[int]api.Block{}}
		for range 400 {
			switch n := next(20); {
			case n == 0:
				s.change(next)
			case n == 1:
				droppedAtOnce[s.drop()]++
			case n == 2:
				for range next(9) {
					s.change(next)
				}
				droppedAtOnce[s.drop()]++
			default:
				s.add(translate.Block(s.m, 2*next(128)))
			}
			s.check(t)
			if len(s.c.Blocks) == maxBlocks {
				full++
			}
		}
	}
	for n := range 9 {
		if droppedAtOnce[n] < 10 {
			t.Errorf("%d times %d blocks were dropped", droppedAtOnce[n], n)
		}
	}
	if full < 100 {
		t.Errorf("the cache was full %d times", full)
	}
}

// What Block returns is valid alone and in any valid cache, and what Find finds of it is the same.
func TestBlocksAreValid(t *testing.T) {
	next := numbers(4)
	for range 100 {
		m := randomMachine(next)
		var c api.Cache
		for range 128 {
			b := translate.Block(m, 2*next(128))
			if len(b.Code) == 0 {
				continue
			}
			if !translate.Right(m, api.Cache{Blocks: []api.Block{b}}) {
				t.Fatalf("%+v is not valid", b)
			}
			c = translate.Add(c, b)
			if !translate.Right(m, c) {
				t.Fatalf("a cache with %+v is not valid", b)
			}
			for _, x := range b.Code {
				checkFind(t, c, x.At, x, true)
			}
		}
	}
}

// A cache that was valid, and from which the stale blocks are dropped, is valid; no other blocks are dropped.
func TestDropMakesValid(t *testing.T) {
	next := numbers(5)
	for range 200 {
		s := state{m: randomMachine(next), c: api.Cache{Used: 17}, blocks: map[int]api.Block{}}
		for range next(100) {
			s.add(translate.Block(s.m, 2*next(128)))
		}
		s.check(t)
		for range 1 + next(40) {
			s.change(next)
		}
		s.drop()
		if !translate.Right(s.m, s.c) {
			t.Fatalf("blocks from %v on are not valid", starts(s.c))
		}
		s.check(t)
	}
}
