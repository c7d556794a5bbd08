package judge_test

import (
	"bytes"
	"fmt"
	"math"
	"slices"
	"testing"

	"spindle/api"
	"spindle/judge"
)

// never is the To of what was not answered.
const never = -1

// Operations, by where they are, what they tell or write, and when.
func readAt(off int, tells string, from, to int) api.Op {
	return api.Op{Kind: api.OpRead, From: from, To: to, Off: off, Len: len(tells), Data: []byte(tells)}
}

func writeAt(off int, data string, from, to int) api.Op {
	return api.Op{Kind: api.OpWrite, From: from, To: to, Off: off, Len: len(data), Data: []byte(data)}
}

func zeroAt(off, n, from, to int) api.Op {
	return api.Op{Kind: api.OpZero, From: from, To: to, Off: off, Len: n}
}

func flush(from, to int) api.Op { return api.Op{Kind: api.OpFlush, From: from, To: to} }

// unread is a read that was not answered.
func unread(off, n, from int) api.Op {
	return api.Op{Kind: api.OpRead, From: from, To: never, Off: off, Len: n}
}

// write and read are those of the chapter's examples, of byte 0.
func write(x string, from, to int) api.Op { return writeAt(0, x, from, to) }
func read(x string, from, to int) api.Op  { return readAt(0, x, from, to) }

// safely gives an operation whose answer told that it is safe.
func safely(op api.Op) api.Op {
	op.Sync = true
	return op
}

func list(ops ...api.Op) []api.Op { return ops }

func numbers(n ...int) []int { return n }

// upTo are the numbers below n, in their order.
func upTo(n int) []int {
	out := make([]int, n)
	for i := range out {
		out[i] = i
	}
	return out
}

// of gives n bytes of one value.
func of(n int, with byte) []byte { return bytes.Repeat([]byte{with}, n) }

// mix joins bytes.
func mix(parts ...[]byte) []byte { return slices.Concat(parts...) }

func want[T comparable](t *testing.T, what string, got, want T) {
	t.Helper()
	if got != want {
		t.Errorf("%s: %v, want %v", what, got, want)
	}
}

func short(b []byte) string {
	if len(b) > 40 {
		return fmt.Sprintf("%d bytes %q..", len(b), b[:40])
	}
	return fmt.Sprintf("%q", b)
}

// A call is all that the three are handed.
type call struct {
	first []byte
	ops   []api.Op
	order []int
	after []byte
}

func (c call) String() string {
	if len(c.ops) > 40 {
		return fmt.Sprintf("%s, %d operations", short(c.first), len(c.ops))
	}
	return fmt.Sprintf("%s, %+v, %v, %s", short(c.first), c.ops, c.order, short(c.after))
}

// roomy gives a copy of a list with spare room behind it; of none, too.
func roomy[T any](list []T, spare T) []T {
	room := append(make([]T, 0, len(list)+3), list...)
	room = append(room, spare, spare, spare)
	return room[:len(list)]
}

// whole is a list with the spare room behind it.
func whole[T any](list []T) []T { return list[:cap(list)] }

// spoil writes a list over, with the spare room behind it.
func spoil[T any](list []T, with T) {
	for i := range whole(list) {
		whole(list)[i] = with
	}
}

// laid is the same call in memory of its own, all of it with room behind it.
func (c call) laid() call {
	out := call{roomy(c.first, 0xa1), roomy(c.ops, api.Op{Kind: 77}), roomy(c.order, 77), roomy(c.after, 0xa2)}
	for i := range out.ops {
		out.ops[i].Data = roomy(out.ops[i].Data, 0xa3)
	}
	return out
}

func sameOp(a, b api.Op) bool {
	return a.Kind == b.Kind && a.From == b.From && a.To == b.To && a.Off == b.Off && a.Len == b.Len && a.Sync == b.Sync && bytes.Equal(whole(a.Data), whole(b.Data)) && len(a.Data) == len(b.Data)
}

// same tells whether two calls, the room behind all lists included, are the same.
func (c call) same(other call) bool {
	return bytes.Equal(whole(c.first), whole(other.first)) && slices.EqualFunc(whole(c.ops), whole(other.ops), sameOp) &&
		slices.Equal(whole(c.order), whole(other.order)) && bytes.Equal(whole(c.after), whole(other.after))
}

// spoilt writes all memory of a call over.
func (c call) spoilt() {
	for _, op := range c.ops {
		spoil(op.Data, 0xb1)
	}
	spoil(c.first, 0xb2)
	spoil(c.ops, api.Op{Kind: -1, From: -7, To: -7, Off: -7, Len: math.MaxInt, Data: []byte{7}})
	spoil(c.order, -7)
	spoil(c.after, 0xb3)
}

// handed calls with memory of its own, and looks that it is as it was behind the call (R4).
func (c call) handed(t *testing.T, what string, do func(call)) {
	t.Helper()
	in := c.laid()
	do(in)
	if !in.same(c.laid()) {
		t.Errorf("%s of %v: what was handed in was changed", what, c)
	}
	in.spoilt()
}

// follow calls Follow; what is answered is held against R2 and R4.
func (c call) follow(t *testing.T) (out []byte, at int, e api.Errno) {
	t.Helper()
	var got []byte
	c.handed(t, "Follow", func(in call) {
		got, at, e = judge.Follow(in.first, in.ops, in.order)
		out = slices.Clone(got)
		spoil(got, 0xc1)
	})
	if e != api.OK && len(out) > 0 || e != api.ErrOrder && at != 0 {
		t.Errorf("Follow of %v: %s, %d beside error %d", c, short(out), at, e)
	}
	if slices.ContainsFunc(whole(got), func(b byte) bool { return b != 0xc1 }) {
		t.Errorf("Follow of %v: what is answered shares memory with what was handed in", c)
	}
	return out, at, e
}

// find calls Order; what is answered is held against R2 and R4.
func (c call) find(t *testing.T) (out []int, found bool, e api.Errno) {
	t.Helper()
	var got []int
	c.handed(t, "Order", func(in call) {
		got, found, e = judge.Order(in.first, in.ops)
		out = slices.Clone(got)
		spoil(got, 0xc2)
	})
	if e != api.OK && found || !found && len(out) > 0 {
		t.Errorf("Order of %v: %v, %v beside error %d", c, out, found, e)
	}
	return out, found, e
}

// survives calls Survives; what is answered is held against R2.
func (c call) survives(t *testing.T) (at int, may bool, e api.Errno) {
	t.Helper()
	c.handed(t, "Survives", func(in call) {
		at, may, e = judge.Survives(in.first, in.ops, in.order, in.after)
	})
	if (may || e != api.OK) && at != 0 || e != api.OK && may {
		t.Errorf("Survives of %v: %d, %v beside error %d", c, at, may, e)
	}
	return at, may, e
}

// wantFollow asks for the bytes behind an order that is right.
func (c call) wantFollow(t *testing.T, what string, want []byte) {
	t.Helper()
	if got, _, e := c.follow(t); e != api.OK || !bytes.Equal(got, want) {
		t.Errorf("%s: Follow of %v: %s, error %d, want %s", what, c, short(got), e, short(want))
	}
}

// wantWrong asks for the place at which an order is wrong; Survives refuses it, too.
func (c call) wantWrong(t *testing.T, what string, place int) {
	t.Helper()
	if _, at, e := c.follow(t); e != api.ErrOrder || at != place {
		t.Errorf("%s: Follow of %v: place %d, error %d, want place %d, error %d", what, c, at, e, place, api.ErrOrder)
	}
	c.after = c.first
	if _, _, e := c.survives(t); e != api.ErrOrder {
		t.Errorf("%s: Survives of %v: error %d, want %d", what, c, e, api.ErrOrder)
	}
}

// wantOrder asks for the order that is found, which Follow then takes.
func (c call) wantOrder(t *testing.T, what string, want ...int) {
	t.Helper()
	got, found, e := c.find(t)
	if e != api.OK || !found || !slices.Equal(got, want) {
		t.Errorf("%s: Order of %v: %v, %v, error %d, want %v", what, c, got, found, e, want)
		return
	}
	c.order = got
	if _, at, e := c.follow(t); e != api.OK {
		t.Errorf("%s: Follow of %v: place %d, error %d", what, c, at, e)
	}
}

func (c call) wantNone(t *testing.T, what string) {
	t.Helper()
	if got, found, e := c.find(t); e != api.OK || found {
		t.Errorf("%s: Order of %v: %v, %v, error %d, want none", what, c, got, found, e)
	}
}

func (c call) wantTaken(t *testing.T, what string) {
	t.Helper()
	if at, may, e := c.survives(t); e != api.OK || !may {
		t.Errorf("%s: Survives of %v: %d, %v, error %d, want true", what, c, at, may, e)
	}
}

// wantNot asks for the first sector that may not be.
func (c call) wantNot(t *testing.T, what string, sector int) {
	t.Helper()
	if at, may, e := c.survives(t); e != api.OK || may || at != sector {
		t.Errorf("%s: Survives of %v: %d, %v, error %d, want %d, false", what, c, at, may, e, sector)
	}
}

// wantRefused asks all three for their errors.
func (c call) wantRefused(t *testing.T, what string, follow, order, survives api.Errno) {
	t.Helper()
	_, _, e := c.follow(t)
	want(t, what+": Follow", e, follow)
	_, _, e = c.find(t)
	want(t, what+": Order", e, order)
	_, _, e = c.survives(t)
	want(t, what+": Survives", e, survives)
}

// dice gives numbers that look as if thrown, the same ones in each run.
type dice uint64

func (d *dice) below(n int) int {
	*d = *d*6364136223846793005 + 1442695040888963407
	return int(uint64(*d)>>33) % n
}

func (d *dice) bool() bool { return d.below(2) == 1 }

// pick throws for one of a list.
func pick[T any](d *dice, list ...T) T { return list[d.below(len(list))] }

// shuffled are the numbers below n in an order that is thrown.
func shuffled(d *dice, n int) []int {
	out := upTo(n)
	for i := range out {
		j := i + d.below(n-i)
		out[i], out[j] = out[j], out[i]
	}
	return out
}
