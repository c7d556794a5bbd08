package mirror_test

import (
	"bytes"
	"encoding/binary"
	"fmt"
	"reflect"
	"slices"
	"testing"

	"spindle/api"
	"spindle/mirror"
)

// lay lays numbers down by their kinds, the highest byte first, and strings and bytes as they are.
func lay(parts ...any) []byte {
	var b []byte
	for _, p := range parts {
		switch v := p.(type) {
		case uint16:
			b = binary.BigEndian.AppendUint16(b, v)
		case uint32:
			b = binary.BigEndian.AppendUint32(b, v)
		case uint64:
			b = binary.BigEndian.AppendUint64(b, v)
		case string:
			b = append(b, v...)
		case []byte:
			b = append(b, v...)
		default:
			panic(fmt.Sprintf("lay of %T", p))
		}
	}
	return b
}

// What a mirror says, as bytes.

func flagBytes(flags uint32) []byte { return lay(flags) }

// goBytes choose an export, and ask for its block sizes.
func goBytes(name string) []byte {
	data := lay(uint32(len(name)), name, uint16(1), uint16(3))
	return lay("IHAVEOPT", uint32(7), uint32(len(data)), data)
}

func requestBytes(kind uint16, cookie, off, n uint64, data ...byte) []byte {
	return lay(uint32(0x25609513), uint16(0), kind, cookie, off, uint32(n), data)
}

func readBytes(cookie, off, n uint64) []byte { return requestBytes(0, cookie, off, n) }
func zeroBytes(cookie, off, n uint64) []byte { return requestBytes(6, cookie, off, n) }
func flushBytes(cookie uint64) []byte        { return requestBytes(3, cookie, 0, 0) }
func writeBytes(cookie, off uint64, data []byte) []byte {
	return requestBytes(1, cookie, off, uint64(len(data)), data...)
}

// What is said to it.

func greetingBytes(flags uint16) []byte { return lay("NBDMAGIC", "IHAVEOPT", flags) }

func replyBytes(code, kind uint32, data ...byte) []byte {
	return lay(uint64(0x0003e889045565a9), code, kind, uint32(len(data)), data)
}

func ackBytes(code uint32) []byte { return replyBytes(code, 1) }

// exportBytes tell the export's size.
func exportBytes(size uint64) []byte { return replyBytes(7, 3, lay(uint16(0), size, uint16(1))...) }

// startBytes acknowledge GO.
func startBytes(size uint64) []byte {
	return lay(exportBytes(size), replyBytes(7, 3, lay(uint16(3), uint32(1), uint32(512), uint32(1<<20))...), ackBytes(7))
}

func simpleBytes(code uint32, cookie uint64, data ...byte) []byte {
	return lay(uint32(0x67446698), code, cookie, data)
}

// well answers a request, and with data a read.
func well(cookie uint64, data ...byte) []byte { return simpleBytes(0, cookie, data...) }

// many gives n bytes of which neighbours differ, none of them 0; each from has others.
func many(n, from int) []byte {
	b := make([]byte, n)
	for i := range b {
		b[i] = byte(((i+from)*7+(i+from)/256)%255) + 1
	}
	return b
}

// aPlan gives the examples' plan, of so many members.
func aPlan(members int) api.MirrorPlan {
	return api.MirrorPlan{Members: members, Name: "a", Size: 4096, Chunk: 1024}
}

// A desk is a mirror and a plain one, which hear the same. What is handed in has spare room, must come back as it was, and is written over then; so is what is answered, behind being looked at (R4).
type desk struct {
	t    *testing.T
	what string
	m    *mirror.Mirror
	p    *plain
}

func newDesk(t *testing.T, what string, plan api.MirrorPlan) *desk {
	t.Helper()
	m, e := mirror.New(plan)
	if m == nil || e != api.OK {
		t.Fatalf("%s: New: error %d", what, e)
	}
	d := &desk{t, what, m, newPlain(plan)}
	d.look()
	return d
}

// handing hands bytes in that have spare room, and looks that they are not changed and not kept.
func (d *desk) handing(b []byte, to func(b []byte)) {
	d.t.Helper()
	handed := roomy(b, 0xaa)
	before := bytes.Clone(whole(handed))
	to(handed)
	if !bytes.Equal(whole(handed), before) {
		d.t.Errorf("%s: what was handed in has changed", d.what)
	}
	spoil(handed, 0xee)
}

func (d *desk) join(k int) api.Errno {
	d.t.Helper()
	e := d.m.Join(k)
	want(d.t, d.what+": Join", e, d.p.join(k))
	d.look()
	return e
}

// hear lets both hear bytes in one piece.
func (d *desk) hear(k int, parts ...[]byte) api.Errno {
	d.t.Helper()
	b := slices.Concat(parts...)
	var e api.Errno
	d.handing(b, func(b []byte) { e = d.m.Hear(k, b) })
	want(d.t, d.what+": Hear", e, d.p.hear(k, b))
	d.look()
	return e
}

// say answers what both say.
func (d *desk) say(k int) []byte {
	d.t.Helper()
	b := d.m.Say(k)
	said := bytes.Clone(b)
	spoil(b, 0xdd)
	wantBytes(d.t, fmt.Sprint(d.what, ": said by member ", k), said, d.p.say(k))
	wantBytes(d.t, d.what+": said again", d.m.Say(k), nil)
	d.look()
	return said
}

// wantSay looks that a member says just this.
func (d *desk) wantSay(k int, parts ...[]byte) {
	d.t.Helper()
	wantBytes(d.t, fmt.Sprint(d.what, ": member ", k), d.say(k), slices.Concat(parts...))
	d.failed()
}

// wantQuiet looks that nobody but those who are named has anything to say.
func (d *desk) wantQuiet(but ...int) {
	d.t.Helper()
	for k := range d.p.members {
		if !slices.Contains(but, k) {
			d.wantSay(k)
		}
	}
}

func (d *desk) lost(k int) api.Errno {
	d.t.Helper()
	e := d.m.Lost(k)
	want(d.t, d.what+": Lost", e, d.p.lost(k))
	d.look()
	return e
}

func (d *desk) trust(k int) api.Errno {
	d.t.Helper()
	e := d.m.Trust(k)
	want(d.t, d.what+": Trust", e, d.p.trust(k))
	d.look()
	return e
}

// added looks at what an operation's call has answered.
func (d *desk) added(call string, id int, e api.Errno, wantID int, wantE api.Errno) (int, api.Errno) {
	d.t.Helper()
	want(d.t, d.what+": the error of "+call, e, wantE)
	want(d.t, d.what+": the number of "+call, id, wantID)
	d.look()
	return id, e
}

func (d *desk) read(off uint64, n uint32) (int, api.Errno) {
	d.t.Helper()
	id, e := d.m.Read(off, n)
	wantID, wantE := d.p.add(api.CmdRead, off, uint64(n), nil)
	return d.added("Read", id, e, wantID, wantE)
}

func (d *desk) write(off uint64, data []byte) (int, api.Errno) {
	d.t.Helper()
	var id int
	var e api.Errno
	d.handing(data, func(b []byte) { id, e = d.m.Write(off, b) })
	wantID, wantE := d.p.add(api.CmdWrite, off, uint64(len(data)), data)
	return d.added("Write", id, e, wantID, wantE)
}

func (d *desk) zero(off uint64, n uint32) (int, api.Errno) {
	d.t.Helper()
	id, e := d.m.Zero(off, n)
	wantID, wantE := d.p.add(api.CmdZeroes, off, uint64(n), nil)
	return d.added("Zero", id, e, wantID, wantE)
}

func (d *desk) flush() (int, api.Errno) {
	d.t.Helper()
	id, e := d.m.Flush()
	wantID, wantE := d.p.add(api.CmdFlush, 0, 0, nil)
	return d.added("Flush", id, e, wantID, wantE)
}

// done answers what both say has ended.
func (d *desk) done() []api.MirrorDone {
	d.t.Helper()
	got := d.m.Done()
	list := copyOf(got)
	for i := range got {
		spoil(got[i].Data, 0xcc)
	}
	spoil(got, api.MirrorDone{ID: -7, Code: 7})
	wantEnded(d.t, d.what, list, d.p.ended())
	wantEnded(d.t, d.what+", again", d.m.Done(), nil)
	d.look()
	return list
}

func copyOf(list []api.MirrorDone) []api.MirrorDone {
	var out []api.MirrorDone
	for _, x := range list {
		x.Data = bytes.Clone(x.Data)
		out = append(out, x)
	}
	return out
}

func wantEnded(t *testing.T, what string, got, list []api.MirrorDone) {
	t.Helper()
	same := func(a, b api.MirrorDone) bool {
		return a.ID == b.ID && a.Code == b.Code && bytes.Equal(a.Data, b.Data)
	}
	if !slices.EqualFunc(got, list, same) {
		t.Errorf("%s: Done: %.300v, want %.300v", what, got, list)
	}
}

// wantDone looks that just these have ended.
func (d *desk) wantDone(list ...api.MirrorDone) {
	d.t.Helper()
	wantEnded(d.t, d.what, d.done(), list)
	d.failed()
}

// wentWell and wentWrong are operations that have ended.
func wentWell(id int) api.MirrorDone  { return api.MirrorDone{ID: id} }
func wentWrong(id int) api.MirrorDone { return api.MirrorDone{ID: id, Code: api.EIO} }

// look holds the looks against each other; twice, since asking changes nothing, and what is answered is new memory.
func (d *desk) look() {
	d.t.Helper()
	for range 2 {
		got := d.m.Look()
		wantLook(d.t, d.what, got, d.p.look())
		for _, l := range got.Missed {
			spoil(l, api.Range{Lo: -3, Hi: 9000})
		}
		spoil(got.Members, 99)
		spoil(got.Missed, []api.Range{{Lo: 1, Hi: 2}})
	}
	d.failed()
}

func wantLook(t *testing.T, what string, got, l api.MirrorLook) {
	t.Helper()
	if got.Waiting != l.Waiting || got.Copying != l.Copying || !slices.Equal(got.Members, l.Members) || !slices.EqualFunc(got.Missed, l.Missed, slices.Equal) {
		t.Errorf("%s: Look: %+v, want %+v", what, got, l)
	}
}

// wantStates looks at the members' states, told by their first letters.
func (d *desk) wantStates(letters string) {
	d.t.Helper()
	var b []byte
	for _, s := range d.m.Look().Members {
		b = append(b, "?ojsw"[s])
	}
	want(d.t, d.what+": the states", string(b), letters)
	d.failed()
}

// wantMissed looks at what a member misses, told by its ends.
func (d *desk) wantMissed(k int, ends ...int64) {
	d.t.Helper()
	var list []int64
	for _, r := range d.m.Look().Missed[k] {
		list = append(list, r.Lo, r.Hi)
	}
	if !slices.Equal(list, ends) {
		d.t.Errorf("%s: member %d misses %v, want %v", d.what, k, list, ends)
	}
	d.failed()
}

// wantWaiting looks how many operations wait, and to whom something is copied.
func (d *desk) wantWaiting(n, copying int) {
	d.t.Helper()
	l := d.m.Look()
	want(d.t, d.what+": Waiting", l.Waiting, n)
	want(d.t, d.what+": Copying", l.Copying, copying)
	d.failed()
}

func (d *desk) failed() {
	d.t.Helper()
	if d.t.Failed() {
		d.t.FailNow()
	}
}

// opens lets a member that is out join and be open, and looks at what it says.
func (d *desk) opens(k int) {
	d.t.Helper()
	d.chooses(k)
	d.hear(k, startBytes(d.p.plan.Size))
}

// chooses lets a member that is out join, and come as far as GO.
func (d *desk) chooses(k int) {
	d.t.Helper()
	want(d.t, d.what+": Join", d.join(k), api.OK)
	d.wantSay(k)
	d.hear(k, greetingBytes(3))
	d.wantSay(k, flagBytes(3), goBytes(d.p.plan.Name))
}

// opened gives a desk all of whose members are whole.
func opened(t *testing.T, what string, members int) *desk {
	t.Helper()
	d := newDesk(t, what, aPlan(members))
	for k := range members {
		d.opens(k)
	}
	return d
}

// lacking gives a desk whose first members are whole, and whose last one is out and misses ranges, told by their ends.
func lacking(t *testing.T, what string, members int, ends ...int64) *desk {
	t.Helper()
	d := opened(t, what, members)
	d.lose(members-1, ends...)
	return d
}

// lose lets a member be lost, and lets writes go by it, so that it misses ranges. Nothing may be in work.
func (d *desk) lose(k int, ends ...int64) {
	d.t.Helper()
	d.lost(k)
	for pair := range slices.Chunk(ends, 2) {
		for at := pair[0]; at < pair[1]; at += 1024 {
			d.write(uint64(at), many(int(min(1024, pair[1]-at)), int(at)))
			d.settle()
		}
	}
	d.wantMissed(k, ends...)
}

// settle answers well whatever members are asked, until they are asked nothing more. Reads tell bytes 0.
func (d *desk) settle() {
	d.t.Helper()
	for again := true; again; {
		again = false
		for k := range d.p.members {
			for _, q := range requestsIn(d.t, d.say(k)) {
				again = true
				if q.Type == api.CmdRead {
					d.hear(k, well(q.Cookie, make([]byte, q.Length)...))
				} else {
					d.hear(k, well(q.Cookie))
				}
			}
		}
	}
	for _, x := range d.done() {
		want(d.t, fmt.Sprint(d.what, ": operation ", x.ID), x.Code, 0)
	}
}

// roomy gives a copy of a list with spare room behind it that is not zero; of none, too.
func roomy[T any](list []T, spare T) []T {
	room := append(make([]T, 0, len(list)+3), list...)
	return append(room, spare, spare, spare)[:len(list)]
}

// whole is a list with the spare room behind it.
func whole[T any](list []T) []T { return list[:cap(list)] }

// spoil writes a list over, with the spare room behind it.
func spoil[T any](list []T, with T) {
	for i := range whole(list) {
		whole(list)[i] = with
	}
}

func want[T comparable](t *testing.T, what string, got, want T) {
	t.Helper()
	if got != want {
		t.Errorf("%s: %+v, want %+v", what, got, want)
	}
}

func wantSame(t *testing.T, what string, got, want any) {
	t.Helper()
	if !reflect.DeepEqual(got, want) {
		t.Errorf("%s: %+v, want %+v", what, got, want)
	}
}

func wantBytes(t *testing.T, what string, got, want []byte) {
	t.Helper()
	if !bytes.Equal(got, want) {
		t.Errorf("%s: %d bytes % x, want %d bytes % x", what, len(got), got[:min(len(got), 80)], len(want), want[:min(len(want), 80)])
	}
}

// dice gives numbers that look as if thrown, the same ones in each run.
type dice uint64

func (d *dice) below(n int) int {
	*d = *d*6364136223846793005 + 1442695040888963407
	return int(uint64(*d)>>33) % n
}

func (d *dice) bool() bool { return d.below(2) == 1 }

// pick throws for one of a list.
func pick[T any](d *dice, list ...T) T { return list[d.below(len(list))] }
