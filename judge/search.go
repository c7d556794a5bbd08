package judge

import (
	"slices"

	"spindle/api"
)

// set is a set of operations, a bit each: MaxJudged of them have room in it.
type set uint16

func only(n int) set { return 1 << n }

func (s set) holds(other set) bool { return other&^s == 0 }

// state is all that what may come next hangs on: which operations were played, and the bytes that they led to.
type state struct {
	done  set
	bytes string
}

// level is a state on the way down, and the number that is to be tried next there.
type level struct {
	done set
	now  device
	next int
}

type search struct {
	ops      []api.Op
	answered set
	ahead    []set // of each operation those that are before it
	levels   []level
	nowhere  map[state]struct{}
}

func searchIn(first []byte, ops []api.Op) *search {
	s := &search{ops: ops, ahead: make([]set, len(ops)), nowhere: map[state]struct{}{}}
	for n, op := range ops {
		if answered(op) {
			s.answered |= only(n)
		}
		for i, other := range ops {
			if before(other, op) {
				s.ahead[n] |= only(i)
			}
		}
	}
	for range len(ops) + 1 {
		s.levels = append(s.levels, level{now: slices.Clone(first)})
	}
	return s
}

// find goes down by the smallest number that leads on, and backs up where none does: so the order that it finds is the first of all.
func (s *search) find() ([]int, bool) {
	depth := 0
down:
	for {
		here := &s.levels[depth]
		if here.done.holds(s.answered) {
			break down
		}
		for here.next < len(s.ops) {
			here.next++
			if s.leadsOn(here, &s.levels[depth+1], here.next-1) {
				depth++
				continue down
			}
		}
		if depth == 0 {
			return nil, false
		}
		s.nowhere[state{here.done, string(here.now)}] = struct{}{}
		depth--
	}
	return s.way(depth), true
}

// leadsOn makes the level below ready, at which operation n was played too; false, if it may not come next, or is known to lead nowhere.
func (s *search) leadsOn(here, below *level, n int) bool {
	op := s.ops[n]
	if here.done.holds(only(n)) || !here.done.holds(s.ahead[n]) || !here.now.fits(op) {
		return false
	}
	below.done, below.next = here.done|only(n), 0
	copy(below.now, here.now)
	below.now.play(op)
	_, lost := s.nowhere[state{below.done, string(below.now)}]
	return !lost
}

// way tells the operations that led down to this depth.
func (s *search) way(depth int) []int {
	order := make([]int, depth)
	for i := range order {
		order[i] = s.levels[i].next - 1
	}
	return order
}
