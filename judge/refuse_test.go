package judge_test

import (
	"fmt"
	"math"
	"testing"

	"spindle/api"
)

// P17.1: a device of no byte, of MaxJudgedAt, and of one more.
func TestDeviceSizes(t *testing.T) {
	for _, size := range []int{0, 1, 511, 512, 513, 4095, 4096} {
		c := call{first: of(size, 'x'), after: of(size, 'x')}
		c.wantRefused(t, fmt.Sprintf("%d bytes", size), api.OK, api.OK, api.OK)
		c.ops, c.order = list(writeAt(0, string(of(size, 'y')), 0, 1), readAt(0, string(of(size, 'y')), 2, 3)), numbers(0, 1)
		c.wantRefused(t, fmt.Sprintf("%d bytes, written and read", size), api.OK, api.OK, api.OK)
		c.wantFollow(t, fmt.Sprintf("%d bytes", size), of(size, 'y'))
	}
	for _, size := range []int{4097, 4608, 1 << 20} {
		c := call{first: of(size, 'x'), after: of(size, 'x')}
		c.wantRefused(t, fmt.Sprintf("%d bytes", size), api.ErrMany, api.ErrMany, api.ErrMany)
	}
}

// P17.1: Order takes MaxJudged operations and none more; the others take as many as there are.
func TestCounts(t *testing.T) {
	for _, n := range []int{0, 1, 9, 10, 11, 16, 17, 64, 65, 1000} {
		c := call{first: zeros(), order: upTo(n)}
		for i := range n {
			c.ops = append(c.ops, write(string(rune('a'+i%26)), 0, 9))
		}
		c.after, _ = plainPlayed(c.first, c.ops, c.order)
		e := api.OK
		if n > 10 {
			e = api.ErrMany
		}
		c.wantRefused(t, fmt.Sprintf("%d operations", n), api.OK, e, api.OK)
		c.wantFollow(t, fmt.Sprintf("%d operations", n), c.after)
		c.wantTaken(t, fmt.Sprintf("%d operations", n))
		if n <= 10 {
			c.wantOrder(t, fmt.Sprintf("%d operations", n), upTo(n)...)
		}
	}
}

// P17.1, P17.2, P17.4: of a great many each is looked at, and none takes long.
func TestManyMore(t *testing.T) {
	const n = 200000
	c := call{first: zeros(), order: make([]int, 0, n)}
	for i := range n {
		c.ops = append(c.ops, write(string(rune('a'+i%26)), 2*(n-i), 2*(n-i)+1))
		c.order = append(c.order, n-1-i)
	}
	c.after = []byte("a000")
	c.wantFollow(t, "all of them", c.after)
	c.wantTaken(t, "all of them")
	c.after = []byte("?000")
	c.wantNot(t, "a byte that none wrote", 0)
	c.order = c.order[:n-1]
	c.wantWrong(t, "the last one lacks", n-1)
	c.order = append(c.order, 1)
	c.wantWrong(t, "the last place is wrong", n-1)
	c.order[n-1] = 0
	c.ops[n/2].Sync, c.after = true, []byte("0000")
	c.wantNot(t, "there was one with Sync", 0)
	c.ops[0].Len = 2
	c.wantRefused(t, "the last one may not be", api.ErrOp, api.ErrMany, api.ErrOp)
}

// A trial is an operation for a device of eight bytes, and whether it may be.
type trial struct {
	what string
	op   api.Op
	may  bool
}

// kinds: another Kind, each by itself.
func kinds() []trial {
	out := []trial{
		{"a read", readAt(2, "00", 0, 1), true},
		{"a write", writeAt(2, "ab", 0, 1), true},
		{"a zero", zeroAt(2, 2, 0, 1), true},
		{"a flush", flush(0, 1), true},
		{"no kind", api.Op{To: 1}, false},
		{"no kind, not answered", api.Op{To: never}, false},
	}
	for _, kind := range []api.OpKind{-1, 0, 5, 6, 257, 258, 260, math.MinInt, math.MaxInt, 1<<32 + 1, 1<<32 + 4} {
		out = append(out, trial{fmt.Sprintf("kind %d", kind), api.Op{Kind: kind, To: 1}, false})
	}
	return out
}

// moments: From below 0, To below From, To -1 and below.
func moments() []trial {
	var out []trial
	for _, m := range []struct {
		from, to int
		may      bool
	}{
		{0, 0, true}, {0, 1, true}, {5, 5, true}, {5, 6, true}, {0, math.MaxInt, true}, {math.MaxInt, math.MaxInt, true},
		{5, 4, false}, {1, 0, false}, {math.MaxInt, math.MaxInt - 1, false}, {math.MaxInt, 0, false},
		{0, -1, true}, {5, -1, true}, {math.MaxInt, -1, true},
		{0, -2, false}, {5, -2, false}, {0, math.MinInt, false}, {5, math.MinInt + 1, false},
		{-1, 0, false}, {-1, 5, false}, {-1, -1, false}, {-2, -1, false}, {-3, -2, false}, {math.MinInt, 0, false}, {math.MinInt, -1, false}, {math.MinInt, math.MinInt, false},
	} {
		reads := readAt(0, "0", m.from, m.to)
		if m.to == never {
			reads = unread(0, 1, m.from)
		}
		for _, op := range []api.Op{reads, writeAt(0, "0", m.from, m.to), zeroAt(0, 1, m.from, m.to), flush(m.from, m.to)} {
			out = append(out, trial{fmt.Sprintf("kind %d from %d to %d", op.Kind, m.from, m.to), op, m.may})
		}
	}
	return out
}

// ranges: Off and Len below 0, Off at the size and above, Len at the size less Off and above, and such that their sum wraps.
func ranges() []trial {
	var out []trial
	for _, r := range []struct {
		off, len int
		may      bool
	}{
		{0, 0, true}, {0, 8, true}, {0, 9, false}, {1, 7, true}, {1, 8, false}, {7, 1, true}, {7, 2, false},
		{8, 0, true}, {8, 1, false}, {9, 0, false}, {9, -1, false}, {8, -1, false}, {0, -1, false}, {-1, 0, false}, {-1, 1, false}, {-1, 9, false}, {-1, -1, false},
		{math.MaxInt, 0, false}, {math.MaxInt, 1, false}, {math.MaxInt, 2, false}, {math.MaxInt, math.MaxInt, false}, {0, math.MaxInt, false}, {1, math.MaxInt, false}, {8, math.MaxInt, false}, {8, math.MaxInt - 7, false},
		{math.MinInt, 0, false}, {math.MinInt, math.MinInt, false}, {0, math.MinInt, false}, {8, math.MinInt, false}, {math.MinInt, math.MaxInt, false}, {math.MaxInt, math.MinInt, false}, {math.MinInt + 8, math.MaxInt, false},
	} {
		n := r.len
		if n < 0 || n > 16 {
			n = 0
		}
		data := of(n, 0)
		for _, op := range []api.Op{
			{Kind: api.OpRead, To: 1, Data: data}, {Kind: api.OpRead, To: never}, {Kind: api.OpWrite, To: 1, Data: data}, {Kind: api.OpWrite, To: never, Data: data}, {Kind: api.OpZero, To: 1}, {Kind: api.OpZero, To: never},
		} {
			op.Off, op.Len = r.off, r.len
			out = append(out, trial{fmt.Sprintf("kind %d to %d: off %d, len %d", op.Kind, op.To, op.Off, op.Len), op, r.may})
		}
	}
	return out
}

// datas: a byte too many or too few, of all kinds, answered and not.
func datas() []trial {
	var out []trial
	for _, kind := range []api.OpKind{api.OpRead, api.OpWrite, api.OpZero, api.OpFlush} {
		for _, to := range []int{1, never} {
			for _, n := range []int{0, 1, 2, 8} {
				for m := range 10 {
					if kind == api.OpFlush && n > 0 {
						continue
					}
					has := kind == api.OpWrite || kind == api.OpRead && to == 1
					op := api.Op{Kind: kind, To: to, Len: n, Data: of(m, 0)}
					out = append(out, trial{fmt.Sprintf("kind %d to %d: len %d, %d bytes", kind, to, n, m), op, has && m == n || !has && m == 0})
				}
			}
		}
	}
	return out
}

// flushes: such with Off or Len, which a device of eight bytes would have room for.
func flushes() []trial {
	var out []trial
	for _, to := range []int{1, never} {
		for off := -1; off <= 9; off++ {
			for n := -1; n <= 9; n++ {
				op := api.Op{Kind: api.OpFlush, To: to, Off: off, Len: n}
				out = append(out, trial{fmt.Sprintf("a flush to %d: off %d, len %d", to, off, n), op, off == 0 && n == 0})
			}
		}
	}
	return out
}

// syncs: of a read, and where To is -1.
func syncs() []trial {
	return []trial{
		{"a flush", safely(flush(0, 1)), true}, {"a flush, not answered", safely(flush(0, never)), false},
		{"a write", safely(writeAt(0, "ab", 0, 1)), true}, {"a write, not answered", safely(writeAt(0, "ab", 0, never)), false},
		{"a zero", safely(zeroAt(0, 2, 0, 1)), true}, {"a zero, not answered", safely(zeroAt(0, 2, 0, never)), false},
		{"a read", safely(readAt(0, "00", 0, 1)), false}, {"a read, not answered", safely(unread(0, 2, 0)), false},
		{"a write of no byte", safely(writeAt(8, "", 0, 0)), true}, {"a zero of no byte", safely(zeroAt(8, 0, 0, 0)), true}, {"a read of no byte", safely(readAt(8, "", 0, 0)), false},
	}
}

// P17.1: each condition under which an operation may not be, at each place of a list.
func TestWhatMayBe(t *testing.T) {
	for _, trials := range [][]trial{kinds(), moments(), ranges(), datas(), flushes(), syncs()} {
		for _, x := range trials {
			if may := plainMay(8, x.op); may != x.may {
				t.Fatalf("%s: %v, the plain reading says %v", x.what, x.may, may)
			}
			for place := range 3 {
				c := call{first: of(8, 0), ops: list(flush(0, never), flush(0, never), flush(0, never)), after: of(8, 0)}
				c.ops[place] = x.op
				if x.op.To != never {
					c.order = numbers(place)
				}
				_, at, e := c.follow(t)
				_, _, found := c.find(t)
				_, _, after := c.survives(t)
				if !x.may && (e != api.ErrOp || at != 0 || found != api.ErrOp || after != api.ErrOp) {
					t.Errorf("%s at place %d: errors %d, %d and %d, want %d", x.what, place, e, found, after, api.ErrOp)
				}
				if x.may && (e == api.ErrOp || found != api.OK || after == api.ErrOp) {
					t.Errorf("%s at place %d: errors %d, %d and %d, but it may be", x.what, place, e, found, after)
				}
			}
		}
	}
}

// R3: ErrMany comes ahead of ErrOp, and ErrOp ahead of ErrOrder.
func TestWhichErrorComesFirst(t *testing.T) {
	wrong := api.Op{Kind: 9}
	long := of(4097, 0)
	ten := make([]api.Op, 10)
	eleven := make([]api.Op, 11)
	for _, x := range []struct {
		what                    string
		c                       call
		follow, order, survives api.Errno
	}{
		{"long, wrong, no order", call{first: long, ops: list(wrong), order: numbers(5), after: zeros()}, api.ErrMany, api.ErrMany, api.ErrMany},
		{"long, eleven wrong ones", call{first: long, ops: eleven, order: numbers(-1), after: long}, api.ErrMany, api.ErrMany, api.ErrMany},
		{"long, no order", call{first: long, order: numbers(0), after: nil}, api.ErrMany, api.ErrMany, api.ErrMany},
		{"eleven wrong ones, no order", call{first: zeros(), ops: eleven, order: numbers(99)}, api.ErrOp, api.ErrMany, api.ErrOp},
		{"ten wrong ones, no order", call{first: zeros(), ops: ten, order: numbers(99)}, api.ErrOp, api.ErrOp, api.ErrOp},
		{"a wrong one, another length", call{first: zeros(), ops: list(wrong), after: nil}, api.ErrOp, api.ErrOp, api.ErrOp},
		{"a wrong one that the order lacks", call{first: zeros(), ops: list(wrong), after: zeros()}, api.ErrOp, api.ErrOp, api.ErrOp},
		{"a wrong one behind one that the order lacks", call{first: zeros(), ops: list(write("a", 0, 1), wrong), after: zeros()}, api.ErrOp, api.ErrOp, api.ErrOp},
		{"no order, another length", call{first: zeros(), order: numbers(0), after: nil}, api.ErrOrder, api.OK, api.ErrOrder},
		{"a right order, another length", call{first: zeros(), after: long}, api.OK, api.OK, api.ErrOrder},
	} {
		x.c.wantRefused(t, x.what, x.follow, x.order, x.survives)
	}
}

// The errors' numbers are the chapter's.
func TestErrorNumbers(t *testing.T) {
	want(t, "ErrMany", api.ErrMany, 170)
	want(t, "ErrOp", api.ErrOp, 171)
	want(t, "ErrOrder", api.ErrOrder, 172)
	want(t, "MaxJudged", api.MaxJudged, 10)
	want(t, "MaxJudgedAt", api.MaxJudgedAt, 4096)
}
