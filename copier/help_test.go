package copier_test

import (
	"bytes"
	"encoding/binary"
	"fmt"
	"slices"
	"testing"

	"spindle/api"
	"spindle/copier"
)

const max64 = 1<<64 - 1

// lay lays numbers down by their kinds, the highest byte first, and strings and bytes as they are.
func lay(parts ...any) []byte {
	var b []byte
	for _, p := range parts {
		switch v := p.(type) {
		case uint16:
			b = binary.BigEndian.AppendUint16(b, v)
		case uint32:
			b = binary.BigEndian.AppendUint32(b, v)
		case uint64:
			b = binary.BigEndian.AppendUint64(b, v)
		case string:
			b = append(b, v...)
		case []byte:
			b = append(b, v...)
		default:
			panic(fmt.Sprintf("lay of %T", p))
		}
	}
	return b
}

// What a copier says, as bytes.

func flagBytes(flags uint32) []byte { return lay(flags) }

func optionBytes(code uint32, data ...byte) []byte {
	return lay("IHAVEOPT", code, uint32(len(data)), data)
}

// goBytes choose an export, and ask for its block sizes.
func goBytes(name string) []byte {
	return optionBytes(7, lay(uint32(len(name)), name, uint16(1), uint16(3))...)
}

// metaBytes ask for contexts.
func metaBytes(name string, queries ...string) []byte {
	b := lay(uint32(len(name)), name, uint32(len(queries)))
	for _, q := range queries {
		b = append(b, lay(uint32(len(q)), q)...)
	}
	return optionBytes(10, b...)
}

func requestBytes(kind uint16, cookie, off, n uint64, data ...byte) []byte {
	return lay(uint32(0x25609513), uint16(0), kind, cookie, off, uint32(n), data)
}

func readBytes(cookie, off, n uint64) []byte   { return requestBytes(0, cookie, off, n) }
func statusBytes(cookie, off, n uint64) []byte { return requestBytes(7, cookie, off, n) }
func zeroBytes(cookie, off, n uint64) []byte   { return requestBytes(6, cookie, off, n) }
func flushBytes(cookie uint64) []byte          { return requestBytes(3, cookie, 0, 0) }
func discBytes(cookie uint64) []byte           { return requestBytes(2, cookie, 0, 0) }
func writeBytes(cookie, off uint64, data []byte) []byte {
	return requestBytes(1, cookie, off, uint64(len(data)), data...)
}

// What is said to it.

func greetingBytes(flags uint16) []byte { return lay("NBDMAGIC", "IHAVEOPT", flags) }

func replyBytes(code, kind uint32, data ...byte) []byte {
	return lay(uint64(0x0003e889045565a9), code, kind, uint32(len(data)), data)
}

func ackBytes(code uint32) []byte { return replyBytes(code, 1) }

func contextBytes(id uint32, name string) []byte { return replyBytes(10, 4, lay(id, name)...) }

// startBytes acknowledge GO.
func startBytes(size uint64) []byte {
	return lay(replyBytes(7, 3, lay(uint16(0), size, uint16(1))...), replyBytes(7, 3, lay(uint16(3), uint32(1), uint32(512), uint32(1<<20))...), ackBytes(7))
}

func simpleBytes(code uint32, cookie uint64, data ...byte) []byte {
	return lay(uint32(0x67446698), code, cookie, data)
}

func chunkBytes(flags, kind uint16, cookie uint64, body ...byte) []byte {
	return lay(uint32(0x668e33ef), flags, kind, cookie, uint32(len(body)), body)
}

// A run is one of a context's.
type run struct{ n, flags uint32 }

// runBytes are a chunk that tells the runs of one context.
func runBytes(flags uint16, cookie uint64, id uint32, runs ...run) []byte {
	b := lay(id)
	for _, r := range runs {
		b = append(b, lay(r.n, r.flags)...)
	}
	return chunkBytes(flags, 5, cookie, b...)
}

// A form is how a source begins: are answers in chunks; which ids have the contexts that it tells (0: it does not tell it); are these refused then.
type form struct {
	name        string
	chunks      bool
	base, dirty uint32
	refuses     bool
}

var (
	plainly = form{name: "plain"}
	bare    = form{name: "without contexts", chunks: true}
	refusal = form{name: "with contexts refused", chunks: true, base: 4, dirty: 9, refuses: true}
	telling = form{name: "telling holes", chunks: true, base: 1}
	marking = form{name: "telling marks alone", chunks: true, dirty: 3}
	both    = form{name: "telling both", chunks: true, base: 7, dirty: 2}
)

func forms() []form { return []form{plainly, bare, refusal, telling, marking, both} }

// tellsHoles and tellsMarks tell what is noted of such a source.
func (f form) tellsHoles() bool { return f.base != 0 && !f.refuses }
func (f form) tellsMarks() bool { return f.dirty != 0 && !f.refuses }

// contexts are the answers to SET_META_CONTEXT.
func (f form) contexts() []byte {
	var b []byte
	if f.base != 0 {
		b = append(b, contextBytes(f.base, "base:allocation")...)
	}
	if f.dirty != 0 {
		b = append(b, contextBytes(f.dirty, "spindle:dirty")...)
	}
	if f.refuses {
		return append(b, replyBytes(10, api.RepTooBig)...)
	}
	return append(b, ackBytes(10)...)
}

// read answers one well.
func (f form) read(cookie, off uint64, data []byte) []byte {
	if f.chunks {
		return chunkBytes(1, 1, cookie, lay(off, data)...)
	}
	return simpleBytes(0, cookie, data...)
}

// status answers one well, of whatever contexts are noted.
func (f form) status(cookie uint64, base, dirty []run) []byte {
	var b []byte
	if f.base != 0 {
		b = append(b, runBytes(0, cookie, f.base, base...)...)
	}
	if f.dirty != 0 {
		b = append(b, runBytes(0, cookie, f.dirty, dirty...)...)
	}
	return append(b, chunkBytes(1, 0, cookie)...)
}

// fails answers a request of a source with an error.
func (f form) fails(cookie uint64, code uint32) []byte {
	if f.chunks {
		return chunkBytes(1, 32769, cookie, lay(code, uint16(2), "no")...)
	}
	return simpleBytes(code, cookie)
}

// many gives n bytes of which neighbours differ, none of them 0; each from has others.
func many(n, from int) []byte {
	b := make([]byte, n)
	for i := range b {
		b[i] = byte(((i+from)*7+(i+from)/256)%255) + 1
	}
	return b
}

// The plan of the examples.
func aPlan() api.CopyPlan {
	return api.CopyPlan{Source: "a", Target: "b", Chunk: 4096, Flight: 2, Tries: 3}
}

// dirtyPlan is the same, of what is dirty.
func dirtyPlan() api.CopyPlan {
	p := aPlan()
	p.Dirty = true
	return p
}

// A desk is a copier and a plain one, which hear the same. What is handed in has spare room, must come back as it was, and is written over then; so is what is said, behind being looked at (R4).
type desk struct {
	t    *testing.T
	what string
	c    *copier.Copier
	p    *plain
}

func newDesk(t *testing.T, what string, plan api.CopyPlan) *desk {
	t.Helper()
	c, e := copier.New(plan)
	if c == nil || e != api.OK {
		t.Fatalf("%s: New: error %d", what, e)
	}
	d := &desk{t, what, c, newPlain(plan)}
	d.look()
	return d
}

// hear lets both hear bytes in one piece.
func (d *desk) hear(side int, parts ...[]byte) {
	d.t.Helper()
	b := slices.Concat(parts...)
	handed := roomy(b, 0xaa)
	before := bytes.Clone(whole(handed))
	e := d.c.Hear(side, handed)
	if !bytes.Equal(whole(handed), before) {
		d.t.Errorf("%s: what Hear was handed has changed", d.what)
	}
	spoil(handed, 0xee)
	want(d.t, d.what+": Hear", e, d.p.hear(side, b))
	d.look()
}

// say answers what both say.
func (d *desk) say(side int) []byte {
	d.t.Helper()
	b := d.c.Say(side)
	said := bytes.Clone(b)
	spoil(b, 0xdd)
	wantBytes(d.t, fmt.Sprint(d.what, ": said by side ", side), said, d.p.say(side))
	wantBytes(d.t, d.what+": said again", d.c.Say(side), nil)
	d.look()
	return said
}

// wantSay looks that a side says just this.
func (d *desk) wantSay(side int, parts ...[]byte) {
	d.t.Helper()
	wantBytes(d.t, fmt.Sprint(d.what, ": side ", side), d.say(side), slices.Concat(parts...))
	d.failed()
}

func (d *desk) lost(side int) {
	d.t.Helper()
	want(d.t, d.what+": Lost", d.c.Lost(side), d.p.lost(side))
	d.look()
}

// look holds the states against each other; twice, since asking changes nothing.
func (d *desk) look() {
	d.t.Helper()
	for range 2 {
		want(d.t, d.what+": State", d.c.State(), d.p.state)
	}
	d.failed()
}

func (d *desk) failed() {
	d.t.Helper()
	if d.t.Failed() {
		d.t.FailNow()
	}
}

func (d *desk) wantState(s api.CopyState) {
	d.t.Helper()
	want(d.t, d.what+": State", d.c.State(), s)
	d.failed()
}

// wantFailed looks that the copy has failed, and that all else of its state is as it was.
func (d *desk) wantFailed(before api.CopyState, side int, code uint32, off uint64) {
	d.t.Helper()
	before.Phase, before.Side, before.Code, before.Off = api.CopyFailed, side, code, off
	d.wantState(before)
	d.wantOver()
}

// wantOver looks that nothing leads to anything any more.
func (d *desk) wantOver() {
	d.t.Helper()
	for side := range 2 {
		for _, b := range [][]byte{nil, {0}, greetingBytes(3), ackBytes(8), startBytes(8192), simpleBytes(0, 1), simpleBytes(5, 2)} {
			d.hear(side, b)
			d.wantSay(side)
		}
		d.lost(side)
		d.hear(side, greetingBytes(3))
		d.wantSay(0)
		d.wantSay(1)
	}
}

// begin lets a side begin, and looks at what it says.
func (d *desk) begin(side int, f form, size uint64) {
	d.t.Helper()
	d.chooses(side, f)
	d.hear(side, startBytes(size))
}

// chooses lets a side come as far as GO.
func (d *desk) chooses(side int, f form) {
	d.t.Helper()
	d.hear(side, greetingBytes(3))
	if side == 1 {
		d.wantSay(1, flagBytes(3), goBytes(d.p.plan.Target))
		return
	}
	d.wantSay(0, flagBytes(3), optionBytes(8))
	if f.chunks {
		d.hear(0, ackBytes(8))
		d.wantSay(0, metaBytes(d.p.plan.Source, queriesOf(d.p.plan)...))
		d.hear(0, f.contexts())
	} else {
		d.hear(0, replyBytes(8, api.RepUnsup))
	}
	d.wantSay(0, goBytes(d.p.plan.Source))
}

func queriesOf(p api.CopyPlan) []string {
	if p.Dirty {
		return []string{"base:allocation", "spindle:dirty"}
	}
	return []string{"base:allocation"}
}

// working gives a desk at which the work has begun, with a target as great as the source.
func working(t *testing.T, what string, plan api.CopyPlan, f form, size uint64) *desk {
	t.Helper()
	d := newDesk(t, what, plan)
	d.begin(1, form{}, size)
	d.begin(0, f, size)
	d.wantState(api.CopyState{Phase: api.CopyWork, Size: size})
	return d
}

// roomy gives a copy of a list with spare room behind it that is not zero; of none, too.
func roomy[T any](list []T, spare T) []T {
	room := append(make([]T, 0, len(list)+3), list...)
	return append(room, spare, spare, spare)[:len(list)]
}

// whole is a list with the spare room behind it.
func whole[T any](list []T) []T { return list[:cap(list)] }

// spoil writes a list over, with the spare room behind it.
func spoil[T any](list []T, with T) {
	for i := range whole(list) {
		whole(list)[i] = with
	}
}

func want[T comparable](t *testing.T, what string, got, want T) {
	t.Helper()
	if got != want {
		t.Errorf("%s: %+v, want %+v", what, got, want)
	}
}

func wantBytes(t *testing.T, what string, got, want []byte) {
	t.Helper()
	if !bytes.Equal(got, want) {
		t.Errorf("%s: %d bytes % x, want %d bytes % x", what, len(got), got[:min(len(got), 80)], len(want), want[:min(len(want), 80)])
	}
}

// dice gives numbers that look as if thrown, the same ones in each run.
type dice uint64

func (d *dice) below(n int) int {
	*d = *d*6364136223846793005 + 1442695040888963407
	return int(uint64(*d)>>33) % n
}

func (d *dice) bool() bool { return d.below(2) == 1 }

// pick throws for one of a list.
func pick[T any](d *dice, list ...T) T { return list[d.below(len(list))] }
