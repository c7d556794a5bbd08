package judge_test

import (
	"bytes"
	"slices"
	"testing"

	"spindle/api"
)

// A throw is how histories are thrown: on how many bytes, of how many operations, over how many moments each, how many of a hundred were not answered.
type throw struct {
	size, ops, spread, lost int
}

// places are offsets near the edges of sectors, as far as the device goes.
func (x throw) place(d *dice) int {
	if x.size <= 16 {
		return d.below(x.size + 1)
	}
	return min(x.size, max(0, 512*d.below(x.size/512+1)+pick(d, -1, 0, 0, 0, 1, 200)))
}

// seen throws for what clients saw: each operation was done in one moment between its two, in the order that is answered, and the reads tell what was there.
func (x throw) seen(d *dice) call {
	c := call{first: of(x.size, '0')}
	for i := range c.first {
		c.first[i] = pick(d, byte('0'), 0, 'a')
	}
	if x.size > 16 {
		c.first = of(x.size, pick(d, byte('0'), 0))
	}
	now := slices.Clone(c.first)
	at := shuffled(d, x.ops)
	c.ops = make([]api.Op, x.ops)
	for i, n := range at {
		op := x.op(d, now)
		op.From, op.To = max(0, 3*i-d.below(x.spread)), 3*i+d.below(x.spread)
		done := true
		if d.below(100) < x.lost {
			op.To, op.Sync, done = never, false, d.bool()
			if op.Kind == api.OpRead {
				op.Data = nil
			}
		}
		if c.ops[n] = op; done {
			c.order = append(c.order, n)
			now, _ = plainPlayed(now, c.ops, []int{n})
		}
	}
	return c
}

// op throws for an operation that is done on these bytes.
func (x throw) op(d *dice, now []byte) api.Op {
	lo, hi := x.place(d), x.place(d)
	if lo > hi {
		lo, hi = hi, lo
	}
	op := api.Op{Kind: pick(d, api.OpRead, api.OpRead, api.OpWrite, api.OpWrite, api.OpWrite, api.OpZero, api.OpFlush), Off: lo, Len: hi - lo}
	switch op.Kind {
	case api.OpRead:
		op.Data = slices.Clone(now[lo:hi])
	case api.OpWrite:
		op.Data = of(op.Len, pick(d, byte('a'), 'a', 'b', 'c', '0'))
		op.Sync = d.below(4) == 0
	case api.OpZero:
		op.Sync = d.below(4) == 0
	case api.OpFlush:
		op.Off, op.Len, op.Sync = 0, 0, d.bool()
	}
	return op
}

// bent gives a history in which something was changed: a read tells another byte, an operation came at another moment, or was answered or not; and an order likewise.
func bent(d *dice, c call) call {
	c.ops, c.order = slices.Clone(c.ops), slices.Clone(c.order)
	for range d.below(3) {
		n := d.below(len(c.ops))
		op := &c.ops[n]
		switch d.below(6) {
		case 0:
			if op.Data = slices.Clone(op.Data); len(op.Data) > 0 {
				op.Data[d.below(len(op.Data))] = pick(d, byte('a'), 'b', '0', 0)
			}
		case 1:
			op.From += pick(d, -3, -1, 1, 3, 6)
		case 2:
			op.To += pick(d, -6, -1, 1, 3)
		case 3:
			op.Off += pick(d, -1, 1)
		case 4:
			other := &c.ops[d.below(len(c.ops))]
			op.From, other.From, op.To, other.To = other.From, op.From, other.To, op.To
		case 5:
			op.Kind = pick(d, api.OpRead, api.OpWrite, api.OpZero, api.OpFlush, 5)
		}
	}
	for range d.below(2) {
		if len(c.order) == 0 {
			break
		}
		i, j := d.below(len(c.order)), d.below(len(c.order))
		switch d.below(6) {
		case 0, 1, 2:
			c.order[i], c.order[j] = c.order[j], c.order[i]
		case 3:
			c.order = slices.Delete(c.order, i, i+1)
		case 4:
			c.order = slices.Insert(c.order, i, d.below(len(c.ops)))
		case 5:
			c.order[i] = pick(d, -1, len(c.ops), c.order[j])
		}
	}
	return c
}

// crashed throws for what may be there behind a crash: of each sector what it was at some moment, mostly behind its floor, or now and then something else.
func crashed(d *dice, c call) []byte {
	out := make([]byte, len(c.first))
	right := plainRefused(c.first, c.ops, boundless) == api.OK && plainRight(c.first, c.ops, c.order)
	for k := 0; 512*k < len(out); k++ {
		from := c.first
		if right {
			floor := plainFloor(c.ops, c.order, k)
			if d.below(4) == 0 {
				floor = 0
			}
			from, _ = plainPlayed(c.first, c.ops, c.order[:floor+d.below(len(c.order)-floor+1)])
		}
		copy(cut(out, k), cut(from, k))
		if d.below(30) == 0 {
			cut(out, k)[d.below(len(cut(out, k)))] ^= 1
		}
	}
	return out
}

// likePlain holds all three against the plain reading.
func (c call) likePlain(t *testing.T, met map[string]int, order func(call) ([]int, bool, api.Errno)) {
	t.Helper()
	got, at, e := c.follow(t)
	wantGot, wantAt, wantE := plainFollow(c)
	if e != wantE || at != wantAt || !bytes.Equal(got, wantGot) {
		t.Fatalf("Follow of %v: %s, %d, error %d, want %s, %d, error %d", c, short(got), at, e, short(wantGot), wantAt, wantE)
	}
	found, some, e := c.find(t)
	wantFound, wantSome, wantE := order(c)
	if e != wantE || some != wantSome || !slices.Equal(found, wantFound) {
		t.Fatalf("Order of %v: %v, %v, error %d, want %v, %v, error %d", c, found, some, e, wantFound, wantSome, wantE)
	}
	sector, may, e := c.survives(t)
	wantSector, wantMay, wantE := plainSurvives(c)
	if e != wantE || sector != wantSector || may != wantMay {
		t.Fatalf("Survives of %v: %d, %v, error %d, want %d, %v, error %d", c, sector, may, e, wantSector, wantMay, wantE)
	}
	switch {
	case e == api.OK && may:
		met["may be"]++
	case e == api.OK:
		met["may not be"]++
	case e == api.ErrOrder:
		met["no right order"]++
	case e == api.ErrOp:
		met["no right operation"]++
	}
	switch {
	case some && slices.IsSorted(found):
		met["found, in their order"]++
	case some && len(found) < len(c.ops):
		met["found, without some"]++
	case some:
		met["found"]++
	case e != api.ErrOp:
		met["none"]++
	}
}

// P17.1 to P17.4: short histories on few bytes, all orders of which are tried.
func TestThrownShort(t *testing.T) {
	d, met := dice(3), map[string]int{}
	for range 30000 {
		x := throw{size: 1 + d.below(4), ops: 1 + d.below(5), spread: pick(&d, 1, 4, 8, 20), lost: pick(&d, 0, 20, 60)}
		c := x.seen(&d)
		if d.below(4) > 0 {
			c = bent(&d, c)
		}
		c.after = crashed(&d, c)
		c.likePlain(t, met, plainOrder)
	}
	enough(t, met, 500)
}

// P17.1 to P17.4: longer ones on several sectors.
func TestThrownLong(t *testing.T) {
	d, met := dice(4), map[string]int{}
	for range 10000 {
		x := throw{size: pick(&d, 3, 512, 513, 1024, 1500), ops: 6 + d.below(5), spread: pick(&d, 1, 4, 8, 12), lost: pick(&d, 0, 20, 40)}
		c := x.seen(&d)
		if d.below(3) > 0 {
			c = bent(&d, c)
		}
		c.after = crashed(&d, c)
		c.likePlain(t, met, func(c call) ([]int, bool, api.Errno) {
			if e := plainRefused(c.first, c.ops, 10); e != api.OK {
				return nil, false, e
			}
			found, some := grown(c, nil, c.first)
			return found, some, api.OK
		})
	}
	enough(t, met, 200)
}

// P17.2, P17.4: more than Order takes.
func TestThrownMany(t *testing.T) {
	d, met := dice(5), map[string]int{}
	for range 300 {
		x := throw{size: pick(&d, 7, 513, 1537, 4096), ops: 11 + d.below(30), spread: pick(&d, 1, 8, 40), lost: pick(&d, 0, 20)}
		c := x.seen(&d)
		if d.below(3) == 0 {
			c = bent(&d, c)
		}
		c.after = crashed(&d, c)
		c.likePlain(t, met, func(call) ([]int, bool, api.Errno) { return nil, false, api.ErrMany })
	}
	for _, kind := range []string{"may be", "may not be", "no right order", "no right operation"} {
		if met[kind] < 10 {
			t.Errorf("too few of %s: %v", kind, met)
		}
	}
}

// enough looks that each kind was met so often.
func enough(t *testing.T, met map[string]int, least int) {
	t.Helper()
	for _, kind := range []string{"may be", "may not be", "no right order", "no right operation", "found, in their order", "found, without some", "found", "none"} {
		if met[kind] < least {
			t.Errorf("too few of %s: %v", kind, met)
		}
	}
}

// P17.5: what follows, of thrown histories.
func TestWhatFollows(t *testing.T) {
	d := dice(6)
	followed, safe := 0, 0
	for range 6000 {
		x := throw{size: pick(&d, 0, 4, 512, 1025, 4096), ops: 1 + d.below(10), spread: pick(&d, 1, 4, 9), lost: pick(&d, 0, 30)}
		c := x.seen(&d)
		now, at, e := c.follow(t)
		if e != api.OK {
			t.Fatalf("Follow of %v, in the order in which they were done: place %d, error %d", c, at, e)
		}
		if d.bool() {
			c = bent(&d, c)
			now, _, e = c.follow(t)
		}
		if found, some, bad := c.find(t); some {
			other := c
			other.order = found
			if _, at, e := other.follow(t); e != api.OK {
				t.Fatalf("Follow of what Order tells of %v, %v: place %d, error %d", c, found, at, e)
			}
		} else if e == api.OK || bad != api.OK && bad != api.ErrOp {
			t.Fatalf("Order of %v: none, error %d, and Follow takes %v", c, bad, c.order)
		}
		if e != api.OK {
			continue
		}
		followed++
		c.after = now
		c.wantTaken(t, "what Follow answers")
		if !slices.ContainsFunc(c.ops, func(op api.Op) bool { return op.Sync }) {
			c.after = c.first
			c.wantTaken(t, "first, without Sync")
			safe++
		}
		c.mixed(t, &d)
	}
	if followed < 3000 || safe < 300 {
		t.Error("too few:", followed, safe)
	}
}

// mixed looks that mixtures of what Survives takes are taken.
func (c call) mixed(t *testing.T, d *dice) {
	t.Helper()
	var taken [][]byte
	for range 4 {
		c.after = crashed(d, c)
		if _, may, _ := c.survives(t); may {
			taken = append(taken, c.after)
		}
	}
	if len(taken) == 0 {
		return
	}
	c.after = make([]byte, len(c.first))
	for k := 0; 512*k < len(c.first); k++ {
		copy(cut(c.after, k), cut(pick(d, taken...), k))
	}
	c.wantTaken(t, "a mixture")
}
