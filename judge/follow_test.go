package judge_test

import (
	"fmt"
	"math"
	"testing"

	"spindle/api"
)

// P17.2: numbers that are no operation's, at the first place, in between and at the last one.
func TestNumbersThatAreNone(t *testing.T) {
	ops := list(write("a", 0, 9), write("b", 0, 9))
	for _, n := range []int{-1, -2, 2, 3, 65536, 1 << 32, 1<<32 + 1, math.MaxInt, math.MinInt, math.MinInt + 1} {
		what := fmt.Sprintf("number %d", n)
		call{first: zeros(), ops: ops, order: numbers(n, 0, 1)}.wantWrong(t, what, 0)
		call{first: zeros(), ops: ops, order: numbers(0, n, 1)}.wantWrong(t, what, 1)
		call{first: zeros(), ops: ops, order: numbers(0, 1, n)}.wantWrong(t, what, 2)
		call{first: zeros(), ops: ops, order: numbers(n)}.wantWrong(t, what, 0)
	}
	call{first: zeros(), order: numbers(0)}.wantWrong(t, "there is no operation", 0)
	call{first: nil, order: numbers(-1)}.wantWrong(t, "there is no operation and no byte", 0)
}

// P17.2: a number twice, of an operation that was answered and of one that was not.
func TestNumbersTwice(t *testing.T) {
	for _, to := range []int{9, never} {
		ops := list(write("a", 0, to), flush(0, to), write("b", 0, 9))
		call{first: zeros(), ops: ops, order: numbers(0, 0, 1, 2)}.wantWrong(t, "at once", 1)
		call{first: zeros(), ops: ops, order: numbers(0, 1, 0, 2)}.wantWrong(t, "later", 2)
		call{first: zeros(), ops: ops, order: numbers(2, 1, 0, 1)}.wantWrong(t, "at the end", 3)
		call{first: zeros(), ops: ops, order: numbers(2, 0, 1)}.wantFollow(t, "once", []byte("a000"))
	}
}

// P17.2: an operation that was answered lacks: the order's length. One that was not may lack or stand there.
func TestWhatLacks(t *testing.T) {
	ops := list(write("a", 0, 9), write("b", 0, 9), write("c", 0, never))
	call{first: zeros(), ops: ops}.wantWrong(t, "both", 0)
	call{first: zeros(), ops: ops, order: numbers(0)}.wantWrong(t, "one", 1)
	call{first: zeros(), ops: ops, order: numbers(1)}.wantWrong(t, "the other", 1)
	call{first: zeros(), ops: ops, order: numbers(2, 1)}.wantWrong(t, "one, and the third is there", 2)
	call{first: zeros(), ops: ops, order: numbers(2)}.wantWrong(t, "both, and the third is there", 1)
	call{first: zeros(), ops: ops, order: numbers(0, 1)}.wantFollow(t, "the third one lacks", []byte("b000"))
	call{first: zeros(), ops: ops, order: numbers(0, 1, 2)}.wantFollow(t, "the third one at the end", []byte("c000"))
	call{first: zeros(), ops: ops, order: numbers(2, 1, 0)}.wantFollow(t, "the third one at the beginning", []byte("a000"))
	call{first: zeros()}.wantFollow(t, "nothing", zeros())
	call{}.wantFollow(t, "no byte", nil)
	call{first: zeros(), ops: list(write("a", 0, never))}.wantFollow(t, "none was answered", zeros())
}

// P17.2: one that is before it does not stand ahead of it; at the same moment it is not before.
func TestBefore(t *testing.T) {
	for _, x := range []struct {
		to, from int
		before   bool
	}{{4, 5, true}, {5, 5, false}, {6, 5, false}, {0, 1, true}, {0, 0, false}, {math.MaxInt - 1, math.MaxInt, true}, {math.MaxInt, math.MaxInt, false}, {never, 0, false}, {never, 5, false}, {never, math.MaxInt, false}} {
		what := fmt.Sprintf("to %d, from %d", x.to, x.from)
		for _, later := range []int{math.MaxInt, never} {
			c := call{first: zeros(), ops: list(write("a", 0, x.to), write("b", x.from, later)), order: numbers(1, 0)}
			if x.before {
				c.wantWrong(t, what, 0)
			} else {
				c.wantFollow(t, what, []byte("a000"))
			}
			c.order = numbers(0, 1)
			c.wantFollow(t, what+", in their order", []byte("b000"))
			c.order = numbers(1)
			switch {
			case x.before:
				c.wantWrong(t, what+", it lacks", 0)
			case x.to != never:
				c.wantWrong(t, what+", it lacks", 1)
			default:
				c.wantFollow(t, what+", it lacks", []byte("b000"))
			}
		}
	}
}

// P17.2: of a whole row, each one before the next, only one order is right; each that is not is wrong at its first place.
func TestRow(t *testing.T) {
	const n = 6
	var ops []api.Op
	for i := range n {
		ops = append(ops, write(string(rune('a'+i)), 2*i, 2*i+1))
	}
	for i := range n {
		for j := range n {
			order := upTo(n)
			order[i], order[j] = order[j], order[i]
			c := call{first: zeros(), ops: ops, order: order}
			if i == j {
				c.wantFollow(t, "the row", []byte("f000"))
			} else {
				c.wantWrong(t, "two changed", min(i, j))
			}
		}
		order := upTo(n)
		call{first: zeros(), ops: ops, order: append(order[:i:i], order[i+1:]...)}.wantWrong(t, "one lacks", i)
	}
}

// P17.2: what is before need not be the neighbour: each one that was answered earlier must stand ahead.
func TestEachThatIsBefore(t *testing.T) {
	ops := list(write("a", 0, 20), write("b", 0, 5), write("c", 0, 7), write("d", 8, 20), write("e", 0, never))
	call{first: zeros(), ops: ops, order: numbers(1, 3, 2, 0)}.wantWrong(t, "the later of two lacks", 1)
	call{first: zeros(), ops: ops, order: numbers(2, 3, 1, 0)}.wantWrong(t, "the earlier of two lacks", 1)
	call{first: zeros(), ops: ops, order: numbers(2, 1, 3, 0)}.wantFollow(t, "both are there", []byte("a000"))
	call{first: zeros(), ops: ops, order: numbers(4, 0, 2, 1, 3)}.wantFollow(t, "others ahead of both", []byte("d000"))
	call{first: zeros(), ops: ops, order: numbers(0, 4, 3, 2, 1)}.wantWrong(t, "neither is there", 2)
}

// P17.2: a read that was answered tells other bytes, the first, one in between, the last.
func TestReadsThatTellOthers(t *testing.T) {
	first := []byte("abcdefgh")
	for off := range 9 {
		for n := 0; off+n <= 8; n++ {
			c := call{first: first, ops: list(flush(0, never), readAt(off, string(first[off:off+n]), 0, 1)), order: numbers(0, 1)}
			c.wantFollow(t, "the bytes that are there", first)
			for i := range n {
				wrong := c
				wrong.ops = list(c.ops[0], readAt(off, string(first[off:off+n]), 0, 1))
				wrong.ops[1].Data[i] ^= 0x80
				wrong.wantWrong(t, fmt.Sprintf("byte %d of %d is another", i, n), 1)
			}
		}
	}
}

// P17.2: a read that was not answered does nothing, and fits everywhere.
func TestUnreadFitsEverywhere(t *testing.T) {
	ops := list(write("a", 0, 9), unread(0, 4, 0), read("a", 10, 11), unread(4, 0, 0))
	for _, order := range [][]int{{0, 2}, {1, 0, 2}, {0, 1, 2}, {0, 2, 1}, {3, 0, 2}, {3, 1, 0, 2}, {0, 1, 3, 2}} {
		call{first: zeros(), ops: ops, order: order}.wantFollow(t, "reads that were not answered", []byte("a000"))
	}
	call{first: zeros(), ops: ops, order: numbers(1, 0, 1, 2)}.wantWrong(t, "twice", 2)
	c := call{first: zeros(), ops: list(write("a", 0, 9), unread(0, 4, 10)), order: numbers(1, 0)}
	c.wantWrong(t, "ahead of one that is before it", 0)
}

// P17.2: what each kind does, at the edges of the device and of no byte.
func TestWhatIsPlayed(t *testing.T) {
	first := []byte("abcdefgh")
	for _, x := range []struct {
		op   api.Op
		want string
	}{
		{writeAt(0, "12345678", 0, 1), "12345678"},
		{writeAt(0, "1", 0, 1), "1bcdefgh"},
		{writeAt(7, "1", 0, 1), "abcdefg1"},
		{writeAt(2, "123", 0, 1), "ab123fgh"},
		{writeAt(2, "123", 0, never), "ab123fgh"},
		{writeAt(0, "", 0, 1), "abcdefgh"},
		{writeAt(8, "", 0, 1), "abcdefgh"},
		{zeroAt(0, 8, 0, 1), "\x00\x00\x00\x00\x00\x00\x00\x00"},
		{zeroAt(0, 1, 0, 1), "\x00bcdefgh"},
		{zeroAt(7, 1, 0, 1), "abcdefg\x00"},
		{zeroAt(3, 2, 0, never), "abc\x00\x00fgh"},
		{zeroAt(0, 0, 0, 1), "abcdefgh"},
		{zeroAt(8, 0, 0, 1), "abcdefgh"},
		{flush(0, 1), "abcdefgh"},
		{flush(0, never), "abcdefgh"},
		{safely(flush(0, 1)), "abcdefgh"},
		{readAt(0, "abcdefgh", 0, 1), "abcdefgh"},
		{readAt(3, "", 0, 1), "abcdefgh"},
		{unread(0, 8, 0), "abcdefgh"},
	} {
		call{first: first, ops: list(x.op), order: numbers(0)}.wantFollow(t, "one operation", []byte(x.want))
	}
}

// P17.2: of several places that are wrong the first, whatever is wrong there.
func TestFirstOfSeveralPlaces(t *testing.T) {
	ops := list(write("a", 0, 1), read("a", 2, 3), write("b", 4, 5), read("b", 6, 7), flush(0, never))
	for _, x := range []struct {
		what  string
		order []int
		place int
	}{
		{"a read, then no number", numbers(0, 1, 4, 3, 99), 3},
		{"no number, then a read", numbers(0, 99, 3, 1), 1},
		{"twice, then one that is before lacks", numbers(0, 0, 3, 2), 1},
		{"one that is before lacks, then twice", numbers(0, 2, 2, 1), 1},
		{"a number twice, and another lacks", numbers(0, 1, 1), 2},
		{"one that is before lacks, at the very beginning", numbers(3, 3, -1), 0},
		{"no number at the end", numbers(0, 1, 2, 3, 5), 4},
		{"all is right, one lacks", numbers(0, 1, 2, 4), 4},
		{"all is right, two lack", numbers(4, 0, 1), 3},
		{"a number below 0, and twice", numbers(4, -1, -1, 4), 1},
	} {
		call{first: zeros(), ops: ops, order: x.order}.wantWrong(t, x.what, x.place)
	}
	call{first: zeros(), ops: ops, order: numbers(0, 4, 1, 2, 3)}.wantFollow(t, "a right one", []byte("b000"))
}
