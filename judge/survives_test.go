package judge_test

import (
	"fmt"
	"slices"
	"testing"

	"spindle/api"
)

// sector is 512 bytes of one value.
func sector(with byte) []byte { return of(512, with) }

// P17.4: after has another number of bytes than first.
func TestAfterOfAnotherLength(t *testing.T) {
	for _, size := range []int{0, 1, 511, 512, 513, 4096} {
		for _, other := range []int{0, 1, size - 1, size, size + 1, size + 512, 4097, 100000} {
			if other < 0 {
				continue
			}
			c := call{first: of(size, 'x'), after: of(other, 'x')}
			if other == size {
				c.wantTaken(t, "the same length")
				continue
			}
			_, _, e := c.survives(t)
			want(t, fmt.Sprintf("%d bytes instead of %d", other, size), e, api.ErrOrder)
		}
	}
}

// P17.4: a device of no byte has no sector, so nothing that may not be.
func TestSurvivesOfNoByte(t *testing.T) {
	c := call{ops: list(safely(flush(0, 1)), safely(writeAt(0, "", 2, 3)), readAt(0, "", 4, 5)), order: numbers(0, 1, 2)}
	c.wantTaken(t, "no byte")
	c.after = []byte{}
	c.wantTaken(t, "no byte")
	c.order = numbers(0, 1)
	_, _, e := c.survives(t)
	want(t, "an order that is not right", e, api.ErrOrder)
}

// P17.4: the last sector may be shorter than 512 bytes: each of its bytes counts, and none beyond it.
func TestLastSector(t *testing.T) {
	for _, size := range []int{1, 2, 511, 512, 513, 514, 1023, 1024, 1025, 3585, 4095, 4096} {
		last := (size - 1) / 512
		c := call{first: of(size, 'x'), ops: list(writeAt(size-1, "y", 0, 1)), order: numbers(0)}
		what := fmt.Sprintf("%d bytes", size)
		c.after = of(size, 'x')
		c.wantTaken(t, what+": ahead of it")
		c.after[size-1] = 'y'
		c.wantTaken(t, what+": behind it")
		c.after[size-1] = 'z'
		c.wantNot(t, what+": neither", last)
		c.after[512*last] = 'z'
		c.wantNot(t, what+": neither", last)
		c.after[size-1] = 'x'
		if 512*last < size-1 {
			c.wantNot(t, what+": the first byte of the last sector", last)
		}
		c.ops[0].Sync, c.after[512*last] = true, 'x'
		c.after[size-1] = 'x'
		c.wantNot(t, what+": it was told to be safe", last)
		c.after[size-1] = 'y'
		c.wantTaken(t, what+": it was told to be safe, and is there")
	}
}

// row is a list of writes of whole sectors on a device of so many, and the order in which they came.
func row(sectors int, writes ...string) call {
	c := call{first: of(512*sectors, '0')}
	for i, w := range writes {
		c.ops = append(c.ops, writeAt(0, string(of(512*sectors, w[0])), 2*i, 2*i+1))
		c.order = append(c.order, i)
	}
	return c
}

// P17.4: every k from the floor to the order's length, and none below it.
func TestEveryK(t *testing.T) {
	letters := []string{"a", "b", "c", "d", "e", "f"}
	for floor := 0; floor <= len(letters); floor++ {
		for _, by := range []string{"a write", "a flush"} {
			c := row(2, letters...)
			if floor > 0 && by == "a write" {
				c.ops[floor-1].Sync = true
			} else if floor > 0 {
				c.ops = append(c.ops, safely(flush(2*floor-1, 2*floor)))
				c.order = slices.Insert(c.order, floor, len(letters))
			}
			for k := 0; k <= len(letters); k++ {
				c.after = of(1024, ("0abcdef")[k])
				what := fmt.Sprintf("%s is the floor %d, after is %d", by, floor, k)
				if k >= floor {
					c.wantTaken(t, what)
				} else {
					c.wantNot(t, what, 0)
				}
			}
			c.after = of(1024, 'g')
			c.wantNot(t, "what never was", 0)
		}
	}
}

// P17.4: the floor is the last of several with Sync, and hangs on the order, not on numbers.
func TestFloorIsOfTheOrder(t *testing.T) {
	c := call{first: sector('0'), ops: list(writeAt(0, string(sector('a')), 0, 9), safely(writeAt(0, string(sector('b')), 0, 9)), safely(flush(0, 9)), writeAt(0, string(sector('c')), 0, never))}
	for _, x := range []struct {
		order []int
		may   string
	}{
		{numbers(0, 1, 2), "b"},
		{numbers(1, 0, 2), "a"},
		{numbers(0, 2, 1), "b"},
		{numbers(2, 0, 1), "b"},
		{numbers(2, 1, 0), "ba"},
		{numbers(1, 2, 0), "ba"},
		{numbers(1, 3, 2, 0), "ca"},
		{numbers(3, 1, 2, 0), "ba"},
		{numbers(2, 1, 3, 0), "bca"},
		{numbers(2, 1, 0, 3), "bac"},
		{numbers(0, 1, 2, 3), "bc"},
	} {
		c.order = x.order
		for _, b := range []byte("0abc") {
			c.after = sector(b)
			if slices.Contains([]byte(x.may), b) {
				c.wantTaken(t, fmt.Sprintf("order %v, %c", x.order, b))
			} else {
				c.wantNot(t, fmt.Sprintf("order %v, %c", x.order, b), 0)
			}
		}
	}
}

// P17.4: what was there ahead of the floor may be, if it is there again behind it.
func TestTheSameAgain(t *testing.T) {
	c := row(1, "a", "b", "a", "0")
	c.ops[1].Sync = true
	for _, b := range []byte("ab0") {
		c.after = sector(b)
		c.wantTaken(t, "again")
	}
	c.ops[2].Sync = true
	c.after = sector('b')
	c.wantNot(t, "not again", 0)
	c.ops[3].Sync = true
	c.after = sector('a')
	c.wantNot(t, "not again", 0)
	c.after = sector('0')
	c.wantTaken(t, "as at the beginning")
}

// P17.4: a write or zero with Sync that reaches into a sector by one byte raises its floor, and that of no other.
func TestSyncByOneByte(t *testing.T) {
	for _, x := range []struct {
		off, len int
		raised   []int
	}{
		{0, 1, numbers(0)}, {511, 1, numbers(0)}, {512, 1, numbers(1)}, {511, 2, numbers(0, 1)}, {1023, 1, numbers(1)}, {1023, 2, numbers(1, 2)},
		{1024, 1, numbers(2)}, {0, 512, numbers(0)}, {0, 513, numbers(0, 1)}, {1, 511, numbers(0)}, {1, 512, numbers(0, 1)}, {512, 512, numbers(1)}, {511, 514, numbers(0, 1, 2)},
		{0, 1036, numbers(0, 1, 2)}, {1035, 1, numbers(2)}, {1024, 12, numbers(2)},
		{0, 0, nil}, {1, 0, nil}, {511, 0, nil}, {512, 0, nil}, {513, 0, nil}, {1024, 0, nil}, {1036, 0, nil},
	} {
		for _, kind := range []api.OpKind{api.OpWrite, api.OpZero} {
			c := call{first: of(1036, '0'), ops: list(writeAt(0, string(of(1036, 'a')), 0, 1)), order: numbers(0, 1)}
			op := api.Op{Kind: kind, From: 2, To: 3, Off: x.off, Len: x.len}
			if kind == api.OpWrite {
				op.Data = of(x.len, 'b')
			}
			c.ops = append(c.ops, op)
			behind, _ := plainPlayed(c.first, c.ops, c.order)
			for k := range 3 {
				what := fmt.Sprintf("kind %d, off %d, len %d, sector %d", kind, x.off, x.len, k)
				c.after = slices.Clone(behind)
				copy(cut(c.after, k), of(len(cut(c.after, k)), '0'))
				c.ops[1].Sync = false
				c.wantTaken(t, what+" without Sync")
				c.ops[1].Sync = true
				if slices.Contains(x.raised, k) {
					c.wantNot(t, what, k)
				} else {
					c.wantTaken(t, what)
				}
				c.after = behind
				c.wantTaken(t, what+" as it is behind both")
			}
		}
	}
}

// P17.4: a flush with Sync raises the floor of every sector; one without Sync, and one that was not answered, of none.
func TestFlushes(t *testing.T) {
	for _, x := range []struct {
		what string
		op   api.Op
		safe bool
	}{{"with Sync", safely(flush(2, 3)), true}, {"without Sync", flush(2, 3), false}, {"not answered", flush(2, never), false}} {
		c := call{first: of(4096, '0'), ops: list(writeAt(0, string(of(4096, 'a')), 0, 1), x.op, writeAt(0, string(of(4096, 'b')), 4, 5)), order: numbers(0, 1, 2)}
		for k := range 8 {
			for _, b := range []byte("0ab") {
				c.after = of(4096, 'b')
				copy(cut(c.after, k), sector(b))
				if x.safe && b == '0' {
					c.wantNot(t, x.what, k)
				} else {
					c.wantTaken(t, x.what)
				}
			}
		}
	}
}

// P17.4: of the sectors that may not be the first, whichever these are.
func TestFirstOfSeveralSectors(t *testing.T) {
	c := call{first: of(8*512-3, '0'), ops: list(writeAt(0, string(of(8*512-3, 'a')), 0, 1)), order: numbers(0)}
	for wrong := range 256 {
		c.after = of(8*512-3, 'a')
		least := -1
		for k := range 8 {
			if wrong>>k&1 == 1 {
				cut(c.after, k)[k] = 'b'
				if least < 0 {
					least = k
				}
			}
		}
		if least < 0 {
			c.wantTaken(t, "none")
		} else {
			c.wantNot(t, fmt.Sprintf("sectors %08b", wrong), least)
		}
	}
}

// P17.4: a sector is whole: half of what it was and half of what it became may not be, at whatever byte it is torn.
func TestTornSectors(t *testing.T) {
	for _, at := range []int{1, 2, 255, 256, 510, 511} {
		c := row(2, "a", "b")
		c.after = mix(of(at, '0'), of(512-at, 'a'), sector('b'))
		c.wantNot(t, "torn", 0)
		c.after = mix(sector('b'), of(at, 'a'), of(512-at, 'b'))
		c.wantNot(t, "torn", 1)
		c.after = mix(sector('b'), sector('a'))
		c.wantTaken(t, "whole ones")
	}
}

// P17.4: what stands in no place of the order has left nothing; what was not answered and stands there may have.
func TestWhatStandsInTheOrder(t *testing.T) {
	c := call{first: zeros(), ops: list(write("a", 0, 1), write("b", 0, never)), order: numbers(0)}
	c.after = []byte("b000")
	c.wantNot(t, "b lacks", 0)
	c.order = numbers(0, 1)
	c.wantTaken(t, "b stands there")
	c.after = []byte("a000")
	c.wantTaken(t, "a is ahead of it")
	c.order = numbers(1, 0)
	for _, after := range []string{"0000", "a000", "b000"} {
		c.after = []byte(after)
		c.wantTaken(t, "b is ahead of a")
	}
	c.ops[0].Sync = true
	c.after = []byte("b000")
	c.wantNot(t, "b is ahead of a, which is safe", 0)
}

// P17.4, P17.5: each mixture, sector by sector, of what each sector may be, and none with a sector that may not be.
func TestMixturesOfSectors(t *testing.T) {
	c := call{first: of(4*512-5, '0')}
	all := func(b byte) api.Op { return writeAt(0, string(of(4*512-5, b)), 0, 99) }
	c.ops = list(all('a'), safely(writeAt(512, "x", 0, 99)), all('b'), safely(zeroAt(3*512, 1, 0, 99)), all('c'))
	c.order = upTo(5)
	may := [][]string{{"0", "a", "b", "c"}, {"x", "b", "c"}, {"0", "a", "b", "c"}, {"z", "c"}}
	for code := range 6 * 6 * 6 * 6 {
		c.after = nil
		least, rest := -1, code
		for k := range 4 {
			value := "0abcxz"[rest%6]
			rest /= 6
			c.after = append(c.after, sector(value)...)
			switch {
			case value == 'x':
				copy(c.after[512*k:], append([]byte("x"), of(511, 'a')...))
			case value == 'z':
				copy(c.after[512*k:], append([]byte{0}, of(511, 'b')...))
			}
			if !slices.Contains(may[k], string(value)) && least < 0 {
				least = k
			}
		}
		c.after = c.after[:4*512-5]
		if least < 0 {
			c.wantTaken(t, fmt.Sprintf("mixture %d", code))
		} else {
			c.wantNot(t, fmt.Sprintf("mixture %d", code), least)
		}
	}
}
