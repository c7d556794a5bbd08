package copier_test

import (
	"bytes"
	"fmt"
	"testing"

	"spindle/api"
	"spindle/wire"
)

// A host stands where a side's server is: it takes apart what the side says, and answers by the bytes that it has.
type host struct {
	form     form
	bytes    []byte
	dirty    []bool // of each of its sectors
	greeted  bool
	flags    bool // the side's were said
	option   *api.Option
	working  bool
	words    []byte        // what was not taken apart
	requests []api.Request // that are not answered
	safe     []byte        // its bytes at the last flush
	left     bool          // the side has taken its leave
}

// take takes apart what the side has said.
func (h *host) take(t *testing.T, b []byte) {
	t.Helper()
	h.words = append(h.words, b...)
	for len(h.words) > 0 {
		n, e := h.cut()
		if e != api.OK {
			t.Fatalf("error %d of % x", e, h.words[:min(80, len(h.words))])
		}
		h.words = h.words[n:]
	}
}

func (h *host) cut() (int, api.Errno) {
	switch {
	case !h.flags:
		h.flags = true
		_, n, e := wire.DecodeFlags(h.words)
		return n, e
	case !h.working:
		o, n, e := wire.DecodeOption(h.words, api.MaxOption)
		h.option = &o
		return n, e
	}
	q, n, e := wire.DecodeRequest(h.words, api.MaxPayload, false)
	h.left = q.Type == api.CmdDisc
	if !h.left {
		h.requests = append(h.requests, q)
	}
	return n, e
}

// next is what the host says next, if there is anything: to the first thing that it was asked.
func (h *host) next() []byte {
	switch {
	case !h.greeted:
		h.greeted = true
		return greetingBytes(3)
	case h.option != nil:
		code := h.option.Code
		h.option = nil
		return h.reply(code)
	case len(h.requests) > 0:
		q := h.requests[0]
		h.requests = h.requests[1:]
		return h.answer(q)
	}
	return nil
}

func (h *host) reply(code uint32) []byte {
	switch {
	case code == api.OptGo:
		h.working = true
		return startBytes(uint64(len(h.bytes)))
	case code == api.OptSetMeta:
		return h.form.contexts()
	case h.form.chunks:
		return ackBytes(code)
	}
	return replyBytes(code, api.RepUnsup)
}

// answer does a request, and answers it well.
func (h *host) answer(q api.Request) []byte {
	at := h.bytes[q.Offset:][:min(q.Length, uint64(len(h.bytes))-q.Offset)]
	switch q.Type {
	case api.CmdRead:
		return h.form.read(q.Cookie, q.Offset, at)
	case api.CmdStatus:
		return h.status(q)
	case api.CmdWrite:
		copy(at, q.Data)
	case api.CmdZeroes:
		clear(at)
	case api.CmdFlush:
		h.safe = bytes.Clone(h.bytes)
	}
	return simpleBytes(0, q.Cookie)
}

// status tells sectors of bytes 0 to be holes, and which are dirty.
func (h *host) status(q api.Request) []byte {
	var base, dirty []run
	for at := q.Offset; at < q.Offset+q.Length; {
		end := min((at/512+1)*512, q.Offset+q.Length)
		base = append(base, run{uint32(end - at), uint32(3 * b2i(isZero(h.bytes[at:end])))})
		dirty = append(dirty, run{uint32(end - at), uint32(b2i(h.dirty[at/512]))})
		at = end
	}
	f := h.form
	if f.refuses {
		f.base, f.dirty = 0, 0
	}
	return f.status(q.Cookie, base, dirty)
}

func b2i(b bool) int {
	if b {
		return 1
	}
	return 0
}

func isZero(b []byte) bool { return bytes.Equal(b, make([]byte, len(b))) }

// gone lets the connection be gone: nothing is outstanding any more.
func (h *host) gone() {
	*h = host{form: h.form, bytes: h.bytes, dirty: h.dirty, safe: h.safe}
}

// A scene is a desk between two hosts.
type scene struct {
	*desk
	hosts  [2]*host
	before []byte  // the target's bytes at first
	heard  []heard // all that was heard
}

type heard struct {
	side int
	b    []byte
}

// newScene gives one: the source has sectors of all kinds, in an order that is thrown; the target has other bytes, and some more.
func newScene(t *testing.T, what string, plan api.CopyPlan, f form, sectors int) *scene {
	t.Helper()
	d := dice(sectors)
	source := &host{form: f}
	for s := range sectors {
		b := make([]byte, 512)
		if d.below(3) > 0 {
			b = many(512, s*11)
		}
		source.bytes = append(source.bytes, b...)
		source.dirty = append(source.dirty, d.bool())
	}
	target := &host{bytes: many(512*sectors+700, 100)}
	return &scene{desk: newDesk(t, what, plan), hosts: [2]*host{source, target}, before: bytes.Clone(target.bytes)}
}

// step lets a side say what it has to, and hear the host's next words; it tells whether there were some.
func (s *scene) step(side int) bool {
	s.t.Helper()
	h := s.hosts[side]
	h.take(s.t, s.say(side))
	b := h.next()
	if b == nil {
		return false
	}
	s.heard = append(s.heard, heard{side, b})
	s.hear(side, b)
	return true
}

// play lets the sides go on in turns until nobody has anything to say, and calls at ahead of each step; it tells how many there were.
func (s *scene) play(at func(n int)) int {
	s.t.Helper()
	n := 0
	for idle := 0; idle < 2; n++ {
		at(n)
		idle++
		if s.step(n % 2) {
			idle = 0
		}
	}
	return n
}

// lose lets a side's connection be lost; behind the end nobody looks at it any more.
func (s *scene) lose(side int) {
	s.t.Helper()
	over := s.p.ended()
	s.lost(side)
	if !over {
		s.hosts[side].gone()
	}
}

// wantCopy looks that what was done is a copy (P23.8). Where a source was lost chunks may have been begun while nobody told what is dirty: of these bytes that are not dirty the source's may be there, too.
func (s *scene) wantCopy(sourceLost bool) {
	s.t.Helper()
	want(s.t, s.what+": the phase", s.c.State().Phase, api.CopyDone)
	source, target := s.hosts[0], s.hosts[1]
	size := len(source.bytes)
	wantBytes(s.t, s.what+": further bytes", target.bytes[size:], s.before[size:])
	wantBytes(s.t, s.what+": what is safe", target.safe, target.bytes)
	for n, dirty := range source.dirty {
		got, from, was := target.bytes[512*n:][:512], source.bytes[512*n:][:512], s.before[512*n:][:512]
		switch {
		case !s.p.plan.Dirty || dirty || !source.form.tellsHoles():
			wantBytes(s.t, fmt.Sprint(s.what, ": sector ", n), got, from)
		case !sourceLost || !bytes.Equal(got, from):
			wantBytes(s.t, fmt.Sprint(s.what, ": sector ", n, ", which is not dirty"), got, was)
		}
	}
	state := s.c.State()
	want(s.t, s.what+": Size", state.Size, uint64(size))
	want(s.t, s.what+": Done", state.Done, state.Size)
	want(s.t, s.what+": the parts", state.Copied+state.Zeroed+state.Skipped, state.Size)
	want(s.t, s.what+": Again", state.Again, 0)
	for side, h := range s.hosts {
		h.take(s.t, s.say(side))
		want(s.t, fmt.Sprint(s.what, ": side ", side, " has taken its leave"), h.left, s.p.sides[side].begun)
	}
	s.failed()
}
