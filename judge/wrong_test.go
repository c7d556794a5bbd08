package judge_test

import (
	"bytes"
	"math"
	"reflect"
	"slices"
	"sync"
	"testing"

	"spindle/api"
	"spindle/judge"
)

// R1: lists that are nil, and such of nothing: all is as of each other.
func TestNothing(t *testing.T) {
	for _, first := range [][]byte{nil, {}} {
		for _, ops := range [][]api.Op{nil, {}} {
			for _, order := range [][]int{nil, {}} {
				b, at, e := judge.Follow(first, ops, order)
				if len(b) != 0 || at != 0 || e != api.OK {
					t.Error("Follow:", b, at, e)
				}
				sector, may, e := judge.Survives(first, ops, order, nil)
				if sector != 0 || !may || e != api.OK {
					t.Error("Survives:", sector, may, e)
				}
				found, some, e := judge.Order(first, ops)
				if len(found) != 0 || !some || e != api.OK {
					t.Error("Order:", found, some, e)
				}
			}
		}
	}
	if _, _, e := judge.Follow(nil, make([]api.Op, 1), nil); e != api.ErrOp {
		t.Error("Follow of a zero operation:", e)
	}
}

// strange throws for an operation that mostly may not be.
func strange(d *dice) api.Op {
	number := func() int {
		return pick(d, 0, 0, 1, 2, 3, 4, -1, -2, 8, 9, math.MaxInt, math.MinInt, math.MaxInt-1, 1<<32, -1<<32)
	}
	return api.Op{Kind: api.OpKind(pick(d, 1, 2, 3, 4, number())), From: number(), To: number(), Off: number(), Len: number(), Data: make([]byte, pick(d, 0, 0, 1, 2, 8, 9)), Sync: d.bool()}
}

// R1, P17.1: whatever operations and numbers are handed in, no call panics, and what is refused is what the plain reading refuses.
func TestStrangeArguments(t *testing.T) {
	d, met := dice(8), map[string]int{}
	for range 100000 {
		c := call{first: make([]byte, d.below(9)), after: make([]byte, d.below(9))}
		for range d.below(3) {
			c.ops = append(c.ops, strange(&d))
		}
		for range d.below(4) {
			c.order = append(c.order, pick(&d, 0, 1, 2, -1, math.MaxInt, math.MinInt))
		}
		c.likePlain(t, met, plainOrder)
	}
	for _, kind := range []string{"may be", "no right order", "no right operation", "found, in their order"} {
		if met[kind] == 0 {
			t.Errorf("none of %s: %v", kind, met)
		}
	}
}

// R5, R9: nothing is kept: the same calls, in another order and from several goroutines, have the same answers.
func TestAgain(t *testing.T) {
	type answers struct {
		follow   []byte
		at       int
		e        api.Errno
		order    []int
		found    bool
		sector   int
		may      bool
		survives api.Errno
	}
	ask := func(c call) (a answers) {
		a.follow, a.at, a.e = judge.Follow(c.first, c.ops, c.order)
		a.order, a.found, _ = judge.Order(c.first, c.ops)
		a.sector, a.may, a.survives = judge.Survives(c.first, c.ops, c.order, c.after)
		return a
	}
	d := dice(9)
	var calls []call
	var at []answers
	for range 2000 {
		c := bent(&d, throw{size: 6, ops: 1 + d.below(10), spread: 9, lost: 20}.seen(&d))
		c.after = crashed(&d, c)
		calls, at = append(calls, c), append(at, ask(c))
	}
	var group sync.WaitGroup
	for range 4 {
		group.Go(func() {
			for i := len(calls) - 1; i >= 0; i-- {
				if got := ask(calls[i]); !reflect.DeepEqual(got, at[i]) {
					t.Errorf("%v: %+v, at first %+v", calls[i], got, at[i])
					return
				}
			}
		})
	}
	group.Wait()
}

// R4: two answers share no memory with each other.
func TestAnswersAreApart(t *testing.T) {
	c := call{first: zeros(), ops: list(write("a", 0, 1), write("b", 0, never), read("a", 2, 3)), order: numbers(0, 2)}
	one, _, _ := judge.Follow(c.first, c.ops, c.order)
	order, _, _ := judge.Order(c.first, c.ops)
	spoil(one, 'x')
	spoil(order, 99)
	other, _, _ := judge.Follow(c.first, c.ops, c.order)
	again, _, _ := judge.Order(c.first, c.ops)
	if !bytes.Equal(other, []byte("a000")) || !slices.Equal(again, numbers(0, 2)) {
		t.Error("the second answers:", other, again)
	}
	same, _, _ := judge.Follow(c.first, nil, nil)
	spoil(same, 'x')
	if !bytes.Equal(c.first, zeros()) {
		t.Error("the answer of nothing is the memory of first")
	}
}

// The face is the chapter's.
func TestFace(t *testing.T) {
	var _ func([]byte, []api.Op, []int) ([]byte, int, api.Errno) = judge.Follow
	var _ func([]byte, []api.Op) ([]int, bool, api.Errno) = judge.Order
	var _ func([]byte, []api.Op, []int, []byte) (int, bool, api.Errno) = judge.Survives
}
