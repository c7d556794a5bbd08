package copier

import (
	"slices"

	"spindle/api"
)

// waits is the cookie of an errand that is to be asked when its side has begun; a client's first one is 1.
const waits = 0

// A work is what is done of one chunk; or the flush behind all chunks, which has no bytes and no parts.
type work struct {
	off    uint64 // the chunk's first byte
	length uint64
	parts  []part // those that are not done
	side   int    // the errand's
	errand api.Request
	cookie uint64
	tried  int                        // how often the errand was asked
	then   func(w *work, e api.Event) // what is done when it is answered
}

// beginChunks begins chunks as long as there is room for one more in work (P23.4, as all down to written).
func (x *copying) beginChunks() {
	for len(x.works) < x.plan.Flight && x.begun < x.state.Size {
		w := &work{off: x.begun, length: min(uint64(x.plan.Chunk), x.state.Size-x.begun)}
		x.begun += w.length
		x.works = append(x.works, w)
		x.begin(w)
	}
}

// begin asks what is to be done with a chunk's bytes, if the source has told that it can tell. One whose connection is gone has told nothing, so that such a chunk is read as a whole.
func (x *copying) begin(w *work) {
	if x.sides[source].told(baseContext) {
		x.send(w, source, api.Request{Type: api.CmdStatus, Offset: w.off, Length: w.length}, x.divided)
		return
	}
	w.parts = []part{{data, w.off, w.length}}
	x.goOn(w)
}

// divided has been told how the chunk is divided.
func (x *copying) divided(w *work, e api.Event) {
	w.parts = x.divide(w, e.Status)
	x.goOn(w)
}

// goOn does the first of the parts that are left.
func (x *copying) goOn(w *work) {
	for len(w.parts) > 0 && w.parts[0].kind == skipped {
		x.state.Skipped += w.parts[0].length
		w.parts = w.parts[1:]
	}
	if len(w.parts) == 0 {
		x.finish(w)
		return
	}
	p := w.parts[0]
	if p.kind == zero {
		x.send(w, target, api.Request{Type: api.CmdZeroes, Offset: p.off, Length: p.length}, x.zeroed)
	} else {
		x.send(w, source, api.Request{Type: api.CmdRead, Offset: p.off, Length: p.length}, x.read)
	}
}

func (x *copying) zeroed(w *work, _ api.Event) {
	x.state.Zeroed += w.parts[0].length
	w.parts = w.parts[1:]
	x.goOn(w)
}

func (x *copying) read(w *work, e api.Event) {
	p := w.parts[0]
	x.send(w, target, api.Request{Type: api.CmdWrite, Offset: p.off, Length: p.length, Data: e.Data}, x.written)
}

func (x *copying) written(w *work, _ api.Event) {
	x.state.Copied += w.parts[0].length
	w.parts = w.parts[1:]
	x.goOn(w)
}

// finish lets a chunk be done. Behind the last one comes the flush (P23.6).
func (x *copying) finish(w *work) {
	x.state.Done += w.length
	x.works = slices.DeleteFunc(x.works, func(other *work) bool { return other == w })
	x.beginChunks()
	if len(x.works) == 0 {
		x.state.Phase = api.CopyFlush
		last := &work{}
		x.works = append(x.works, last)
		x.send(last, target, api.Request{Type: api.CmdFlush}, x.flushed)
	}
}

// flushed ends the copy: all is done, and safe.
func (x *copying) flushed(*work, api.Event) {
	for k := range x.sides {
		if s := &x.sides[k]; s.begun {
			b, _, e := s.peer.Request(api.Request{Type: api.CmdDisc})
			s.say(b, e)
		}
	}
	x.end(api.CopyDone)
}

// send gives a work its next errand.
func (x *copying) send(w *work, side int, r api.Request, then func(w *work, e api.Event)) {
	w.side, w.errand, w.then = side, r, then
	w.cookie, w.tried = waits, 0
	x.ask(w)
}

// ask asks a work's errand, unless that has to wait.
func (x *copying) ask(w *work) {
	s := &x.sides[w.side]
	if !s.begun {
		return
	}
	b, cookie, e := s.peer.Request(w.errand)
	s.say(b, e)
	w.cookie = cookie
	w.tried++
}

// askWaiting asks the errands of a side that have waited for it.
func (x *copying) askWaiting(k int) {
	for _, w := range x.works {
		if w.side == k && w.cookie == waits {
			x.ask(w)
		}
	}
}

// answered is what an answer to a request leads to (P23.5).
func (x *copying) answered(k int, e api.Event) {
	at := slices.IndexFunc(x.works, func(w *work) bool { return w.side == k && w.cookie == e.Cookie })
	if at < 0 {
		return
	}
	w := x.works[at]
	switch {
	case e.Code == 0:
		w.then(w, e)
	case w.tried >= x.plan.Tries:
		x.fail(k, e.Code, w.errand.Offset)
	default:
		x.state.Again++
		x.ask(w)
	}
}
