package judge_test

import (
	"bytes"
	"fmt"
	"slices"
	"testing"
	"time"

	"spindle/api"
)

// P17.3: no operation, and such of which none was answered: the order of none.
func TestOrderOfNothing(t *testing.T) {
	call{}.wantOrder(t, "no byte, no operation")
	call{first: zeros()}.wantOrder(t, "no operation")
	call{first: zeros(), ops: list(write("a", 0, never), unread(0, 4, 0), flush(3, never), zeroAt(0, 4, 2, never))}.wantOrder(t, "none was answered")
}

// P17.3: of several right orders the first, by the smaller number at the first place at which they differ.
func TestFirstOfSeveralOrders(t *testing.T) {
	c := call{first: zeros()}
	c.ops = list(write("a", 0, 9), write("b", 0, 9), write("c", 0, 9))
	c.wantOrder(t, "all six are right", 0, 1, 2)
	c.ops = list(write("a", 0, 9), write("b", 0, 9), read("a", 10, 11))
	c.wantOrder(t, "one of two", 1, 0, 2)
	c.ops = list(read("a", 10, 11), write("b", 0, 9), write("a", 0, 9))
	c.wantOrder(t, "numbers are not moments", 1, 2, 0)
	c.ops = list(write("a", 4, 5), write("b", 2, 3), write("c", 0, 1))
	c.wantOrder(t, "the only one", 2, 1, 0)
	c.ops = list(read("b", 0, 9), read("a", 0, 9), write("b", 0, 9), write("a", 0, 9))
	c.wantOrder(t, "two readers", 2, 0, 3, 1)
	c.ops = list(read("0", 0, 9), write("a", 0, 9), read("a", 0, 9), read("0", 0, 9), flush(0, 9))
	c.wantOrder(t, "what fits at once comes at once", 0, 3, 1, 2, 4)
}

// P17.3: what was not answered stands in it just where it must, by the rule of the first one.
func TestOrderWithWhatWasNotAnswered(t *testing.T) {
	c := call{first: zeros()}
	c.ops = list(write("a", 0, never), read("a", 5, 6))
	c.wantOrder(t, "it must stand there", 0, 1)
	c.ops = list(write("a", 0, never), read("0", 5, 6))
	c.wantOrder(t, "it must not stand there", 1)
	c.ops = list(read("0", 5, 6), write("a", 0, never))
	c.wantOrder(t, "it need not stand at the end", 0)
	c.ops = list(write("a", 0, never), write("b", 0, 9))
	c.wantOrder(t, "a smaller number stands there, though it need not", 0, 1)
	c.ops = list(write("b", 0, 9), write("a", 0, never))
	c.wantOrder(t, "a greater number does not", 0)
	c.ops = list(unread(0, 4, 0), write("b", 0, 9), unread(0, 4, 0))
	c.wantOrder(t, "reads, likewise", 0, 1)
	c.ops = list(write("a", 6, never), read("a", 5, 6))
	c.wantOrder(t, "it was asked when the read was answered", 0, 1)
	c.ops = list(write("a", 7, never), read("a", 5, 6))
	c.wantNone(t, "it was asked behind the read's answer")
	c.ops = list(write("a", 5, never), write("b", 3, 4), read("a", 5, 6))
	c.wantOrder(t, "what was answered ahead of it comes ahead", 1, 0, 2)
	c.ops = list(write("a", 0, never), read("a", 1, 2), read("0", 3, 4))
	c.wantNone(t, "it is there once")
	c.ops = list(write("a", 0, never), write("a", 0, never), write("0", 0, never), read("a", 1, 2), read("0", 3, 4), read("a", 5, 6))
	c.wantOrder(t, "and there are others", 0, 3, 2, 4, 1, 5)
	c.ops = list(zeroAt(0, 4, 0, never), read("\x00", 1, 2))
	c.wantOrder(t, "a zero", 0, 1)
}

// P17.3: histories without a right order.
func TestOrderOfNone(t *testing.T) {
	for what, ops := range map[string][]api.Op{
		"a byte that none wrote":             list(write("a", 0, 9), read("b", 0, 9)),
		"a byte that was there too early":    list(write("a", 5, 6), read("a", 0, 4)),
		"a byte that was there too late":     list(write("a", 0, 1), read("0", 2, 3)),
		"new, then old":                      list(write("a", 0, 9), read("a", 1, 2), read("0", 3, 4)),
		"two readers, two orders":            list(write("a", 0, 99), write("b", 0, 99), read("a", 1, 2), read("b", 3, 4), read("a", 5, 6)),
		"half of a write":                    list(writeAt(0, "ab", 0, 9), readAt(0, "a0", 0, 9)),
		"halves of two writes":               list(writeAt(0, "ab", 0, 9), writeAt(0, "cd", 0, 9), readAt(0, "ad", 0, 9)),
		"a zero and what was there":          list(zeroAt(0, 4, 0, 1), readAt(0, "0", 2, 3)),
		"a flush keeps no bytes":             list(write("a", 0, 1), flush(2, 3), write("b", 4, 5), read("a", 6, 7)),
		"the last of all, and it is another": list(write("a", 0, 1), write("b", 2, 3), read("a", 4, 5)),
	} {
		call{first: zeros(), ops: ops}.wantNone(t, what)
	}
}

// P17.3: at the same moment neither is before the other.
func TestOrderAtTheSameMoment(t *testing.T) {
	c := call{first: zeros(), ops: list(write("a", 0, 5), read("0", 5, 6))}
	c.wantOrder(t, "both at moment 5", 1, 0)
	c.ops[1].From = 6
	c.wantNone(t, "a moment later")
	c.ops = list(read("a", 5, 5), write("a", 5, 5))
	c.wantOrder(t, "both in one moment", 1, 0)
}

// P17.3: ten of them, whose only order is each of some, the first and the last of all among them.
func TestOnlyOrderOfTen(t *testing.T) {
	d := dice(1)
	tens := [][]int{upTo(10), {9, 8, 7, 6, 5, 4, 3, 2, 1, 0}}
	for range 50 {
		tens = append(tens, shuffled(&d, 10))
	}
	for _, order := range tens {
		c := call{first: zeros(), ops: make([]api.Op, 10)}
		for i, n := range order {
			c.ops[n] = write(string(rune('a'+i)), 2*i, 2*i+1)
		}
		c.wantOrder(t, "a row", order...)
		c.first = []byte("00000")
		for i, n := range order {
			if c.ops[n] = writeAt(i/2, "a", 0, 99); i%2 == 1 {
				c.ops[n] = readAt(0, "aaaaa00000"[5-i/2-1:][:5], 0, 99)
			}
		}
		c.wantOrder(t, "writes and reads by turns, all at one time", order...)
	}
}

// steps are writes that reach over one another, of very many mixtures.
func steps() []api.Op {
	var ops []api.Op
	for i, x := range [][2]int{{14, 18}, {4, 17}, {1, 8}, {10, 15}, {1, 20}, {8, 16}, {2, 9}, {7, 11}, {6, 13}} {
		ops = append(ops, writeAt(204*x[0], string(of(204*(x[1]-x[0]), byte('a'+i))), 0, 5))
	}
	return ops
}

// R1, P17.3: what leads to very many states ends soon, too, with an order and without one.
func TestVeryManyStates(t *testing.T) {
	c := call{first: make([]byte, 4096), ops: append(steps(), readAt(0, string(of(4096, 'z')), 0, 5))}
	c.wantNone(t, "a read of what none wrote")
	c.ops[9].Data[0] = 0
	c.wantNone(t, "a read of what none wrote, but for its first byte")
	for i := range c.ops[:9] {
		c.ops[i].To = never
	}
	c.wantNone(t, "and none of them was answered")
	d := dice(7)
	for range 20 {
		order := shuffled(&d, 9)
		now, _ := plainPlayed(c.first, c.ops, order)
		c.ops[9] = readAt(0, string(now), 6, 7)
		for i := range c.ops[:9] {
			c.ops[i].To = 5
		}
		found, some, e := c.find(t)
		if !some || e != api.OK || len(found) != 10 || slices.Compare(found, append(order, 9)) > 0 {
			t.Errorf("Order: %v, %v, error %d, and %v is right", found, some, e, order)
		}
		c.order = found
		c.wantFollow(t, "what was found", now)
	}
}

// P17.3, P17.2: lists of all kinds of small operations, all orders of them tried one by one: Order tells the first that is right, and Follow takes just those that are.
func TestAllOrdersOfSmallLists(t *testing.T) {
	small := []api.Op{
		write("a", 0, 1), write("a", 2, 3), write("a", 0, 3), write("a", 1, never),
		read("a", 0, 1), read("a", 2, 3), read("a", 0, 3), read("0", 0, 1), read("0", 2, 3), read("0", 0, 3),
		unread(0, 1, 1), zeroAt(0, 1, 1, 2), readAt(0, "\x00", 2, 3), flush(0, 1), readAt(1, "", 2, 2),
	}
	met := [2]int{}
	for i := range small {
		for j := range small {
			for k := range small {
				c := call{first: []byte("0"), ops: list(small[i], small[j], small[k])}
				c.wantLikePlain(t, &met)
			}
			c := call{first: []byte("0"), ops: list(small[i], small[j])}
			c.wantLikePlain(t, &met)
		}
		c := call{first: []byte("0"), ops: list(small[i])}
		c.wantLikePlain(t, &met)
	}
	if met[0] < 1000 || met[1] < 1000 {
		t.Error("too few of a kind:", met)
	}
}

// wantLikePlain holds Order and, of every order, Follow against the plain reading.
func (c call) wantLikePlain(t *testing.T, met *[2]int) {
	t.Helper()
	want, some, _ := plainOrder(c)
	got, found, e := c.find(t)
	if e != api.OK || found != some || !slices.Equal(got, want) {
		t.Fatalf("Order of %v: %v, %v, error %d, want %v, %v", c, got, found, e, want, some)
	}
	if found {
		met[1]++
	} else {
		met[0]++
	}
	plainOrders(len(c.ops), nil, func(order []int) bool {
		c.order = order
		bytesOf, at, e := c.follow(t)
		wantBytes, wantAt, wantE := plainFollow(c)
		if e != wantE || at != wantAt || !bytes.Equal(bytesOf, wantBytes) || (e == api.OK) != plainRight(c.first, c.ops, order) {
			t.Fatalf("Follow of %v: %s, %d, error %d, want %s, %d, error %d", c, short(bytesOf), at, e, short(wantBytes), wantAt, wantE)
		}
		return true
	})
}

// P17.3: two bytes that are told by different reads: a state is all of its bytes.
func TestStatesThatDifferInOneByte(t *testing.T) {
	for at := range 4 {
		c := call{first: zeros()}
		other := (at + 1) % 4
		c.ops = list(writeAt(at, "a", 0, 9), writeAt(at, "b", 0, 9), writeAt(other, "c", 0, 9), readAt(at, "a", 10, 11), readAt(other, "c", 10, 11))
		c.wantOrder(t, fmt.Sprintf("byte %d", at), 1, 0, 2, 3, 4)
		c.ops[2].To, c.ops[4] = never, readAt(other, "0", 10, 11)
		c.wantOrder(t, fmt.Sprintf("byte %d", at), 1, 0, 3, 4)
	}
}

// P17.3, Ways: what is known to lead nowhere is not looked at again: operations of which all orders lead to the same bytes are soon done with.
func TestWhatLedNowhereIsRemembered(t *testing.T) {
	c := call{first: zeros()}
	for range 9 {
		c.ops = append(c.ops, write("a", 0, 9))
	}
	c.ops = append(c.ops, read("b", 0, 9))
	begun := time.Now()
	for range 1000 { // a fifth of a second; without what is remembered some fifty
		if c.wantNone(t, "nine alike, and a read of what none wrote"); time.Since(begun) > 20*time.Second {
			t.Fatal("it takes too long")
		}
	}
}
