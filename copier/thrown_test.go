package copier_test

import (
	"fmt"
	"testing"

	"spindle/api"
)

// A game is a desk between two hosts that answer whatever is thrown for; beside it a copier that hears the same in other pieces.
type game struct {
	*desk
	d     *dice
	hosts [2]*host
	other *desk
	wild  bool // the hosts say what no server says, now and then
	met   map[string]int
}

func newGame(t *testing.T, d *dice, what string, met map[string]int) *game {
	t.Helper()
	plan := api.CopyPlan{Source: "a", Target: "b", Chunk: 4096, Flight: pick(d, 1, 2, 3, 64), Tries: pick(d, 1, 2, 4, 64), Dirty: d.bool()}
	size := pick(d, 1, 512, 4096, 9000, 16384, 50000)
	f := pick(d, plainly, bare, refusal, telling, both, both, both, both)
	g := &game{desk: newDesk(t, what, plan), d: d, other: newDesk(t, what+", in pieces", plan), wild: d.below(4) == 0, met: met}
	g.hosts = [2]*host{{form: f, bytes: many(size, 0)}, {bytes: make([]byte, size+pick(d, 0, 0, 1, 5000))}}
	return g
}

// reply throws for an answer to the option that is outstanding.
func (g *game) reply(h *host) []byte {
	code := h.option.Code
	h.option = nil
	switch {
	case g.d.below(60) == 0:
		return replyBytes(code, 1<<31+uint32(g.d.below(12)))
	case code == api.OptSetMeta && g.d.below(20) == 0:
		return lay(contextBytes(uint32(g.d.below(4)), pick(g.d, "x:y", "base:allocation", "spindle:dirty", "spindle:unsaved")), h.form.contexts())
	case code == api.OptGo && g.d.below(40) == 0:
		h.working = true
		return startBytes(uint64(len(h.bytes) + pick(g.d, -1, 1, 512)))
	}
	return h.reply(code)
}

// answer throws for one to a request, with an error now and then.
func (g *game) answer(h *host) []byte {
	at := g.d.below(len(h.requests))
	q := h.requests[at]
	h.requests = append(h.requests[:at:at], h.requests[at+1:]...)
	code := uint32(pick(g.d, 1, 5, 22, 28, 1+g.d.below(1000)))
	switch {
	case g.d.below(12) == 0:
		return h.form.fails(q.Cookie, code)
	case g.d.below(40) == 0 && h.form.chunks:
		return lay(chunkBytes(0, 32770, q.Cookie, lay(code, uint16(0), q.Offset)...), chunkBytes(1, 0, q.Cookie))
	case q.Type == api.CmdStatus && h.form.chunks:
		return g.status(h, q)
	case q.Type == api.CmdRead && h.form.chunks && q.Length > 1:
		half := q.Length / 2
		return lay(chunkBytes(0, 2, q.Cookie, lay(q.Offset+half, uint32(q.Length-half))...), chunkBytes(1, 1, q.Cookie, lay(q.Offset, many(int(half), at))...))
	case q.Type == api.CmdRead:
		return h.form.read(q.Cookie, q.Offset, many(int(q.Length), int(q.Cookie)))
	}
	return simpleBytes(0, q.Cookie)
}

// status throws for runs of the contexts that were chosen; they need not reach the chunk's end.
func (g *game) status(h *host, q api.Request) []byte {
	f := h.form
	if f.refuses {
		f.base, f.dirty = 0, 0
	}
	return f.status(q.Cookie, g.runs(q.Length), g.runs(q.Length))
}

func (g *game) runs(left uint64) []run {
	var out []run
	for left > 0 && (len(out) == 0 || g.d.below(12) > 0) {
		n := 1 + g.d.below(int(left))
		if g.d.bool() {
			n = min(n, 1+g.d.below(600))
		}
		out = append(out, run{uint32(n), uint32(g.d.below(4))})
		left -= uint64(n)
	}
	return out
}

// words throws for what a host says next.
func (g *game) words(h *host) []byte {
	var b []byte
	switch {
	case g.wild && g.d.below(100) == 0:
		b = pick(g.d, many(40, 0), simpleBytes(0, uint64(g.d.below(6))), ackBytes(8), greetingBytes(3), chunkBytes(1, 0, uint64(g.d.below(6))))
	case !h.greeted:
		h.greeted = true
		b = greetingBytes(pick[uint16](g.d, 1, 3, 3))
	case h.option != nil:
		b = g.reply(h)
	case len(h.requests) > 0:
		b = g.answer(h)
		for len(h.requests) > 0 && g.d.below(3) == 0 {
			b = append(b, g.answer(h)...)
		}
	}
	if g.wild && len(b) > 0 && g.d.below(100) == 0 {
		b[g.d.below(min(len(b), 40))] ^= pick[byte](g.d, 1, 2, 128, byte(g.d.below(256)))
	}
	return b
}

// hears lets both copiers hear the same, the other one in pieces. As long as it goes on the same is to be seen (P23.9).
func (g *game) hears(side int, b []byte) {
	g.t.Helper()
	g.hear(side, b)
	g.other.what = g.what + ", in pieces"
	for rest := b; len(rest) > 0; {
		n := min(1+g.d.below(pick(g.d, 8, 40, 5000)), len(rest))
		g.other.hear(side, rest[:n])
		rest = rest[n:]
	}
	if !g.p.ended() {
		g.other.wantState(g.c.State())
	}
}

// says lets a side say what it has to.
func (g *game) says(side int) {
	g.t.Helper()
	b, other := g.say(side), g.other.say(side)
	if g.p.ended() {
		return
	}
	wantBytes(g.t, g.what+": said in pieces", other, b)
	g.hosts[side].take(g.t, b)
}

// step does one thing that is thrown.
func (g *game) step() {
	g.t.Helper()
	side := g.d.below(2)
	if g.d.below(60) == 0 {
		g.met[fmt.Sprintf("side %d lost in phase %d", side, g.p.state.Phase)]++
		g.lost(side)
		g.other.lost(side)
		g.hosts[side].gone()
		return
	}
	if g.d.below(3) == 0 {
		g.says(side)
		return
	}
	if b := g.words(g.hosts[side]); len(b) > 0 {
		g.hears(side, b)
	}
}

// P23.2 to P23.7, P23.9: whatever hosts answer, in whatever order, with losses, errors and bytes that are none: the copier does what the chapter's words say, in whatever pieces it hears.
func TestThrown(t *testing.T) {
	d := dice(31)
	met := map[string]int{}
	for r := range 1500 {
		g := newGame(t, &d, fmt.Sprint("run ", r), met)
		for n := 0; n < 600 && !g.p.ended(); n++ {
			g.what = fmt.Sprintf("run %d, step %d", r, n)
			g.step()
		}
		s := g.p.state
		met[fmt.Sprintf("phase %d", s.Phase)]++
		met[fmt.Sprintf("copied %v, zeroed %v, skipped %v", s.Copied > 0, s.Zeroed > 0, s.Skipped > 0)]++
		met[fmt.Sprintf("again %v", s.Again > 0)]++
		if s.Phase == api.CopyFailed {
			met[fmt.Sprintf("side %d, by a code %v, behind the beginning %v", s.Side, s.Code > 0, s.Size > 0)]++
		}
		for range 5 {
			g.step()
			if s.Phase >= api.CopyDone {
				g.wantState(s)
			}
		}
	}
	for _, what := range []string{
		"phase 4", "phase 5", "again true", "copied true, zeroed true, skipped true", "copied true, zeroed true, skipped false", "copied true, zeroed false, skipped false", "copied false, zeroed true, skipped false",
		"side 0, by a code true, behind the beginning true", "side 1, by a code true, behind the beginning true", "side 0, by a code false, behind the beginning false", "side 1, by a code false, behind the beginning false",
		"side 0, by a code false, behind the beginning true", "side 1, by a code false, behind the beginning true",
		"side 0 lost in phase 1", "side 1 lost in phase 1", "side 0 lost in phase 2", "side 1 lost in phase 2", "side 0 lost in phase 3", "side 1 lost in phase 3",
	} {
		if met[what] < 10 {
			t.Errorf("%s: only %d times", what, met[what])
		}
	}
}

// R1: bytes that nobody would say: every call ends.
func TestThrownBytes(t *testing.T) {
	d := dice(32)
	for r := range 2000 {
		x := newDesk(t, fmt.Sprint("bytes ", r), pick(&d, aPlan(), dirtyPlan()))
		if d.bool() {
			x.begin(1, form{}, uint64(1+d.below(9000)))
		}
		if d.bool() {
			x.begin(0, pick(&d, forms()...), uint64(1+d.below(9000)))
		}
		for range 10 {
			side := pick(&d, 0, 1, 0, 1, d.below(100)-50)
			b := make([]byte, d.below(60))
			for i := range b {
				b[i] = pick(&d, 0, 0, 0, 1, 3, byte(d.below(256)))
			}
			switch d.below(6) {
			case 0:
				x.lost(side)
			case 1:
				x.say(side)
			case 2:
				x.hear(side, greetingBytes(3))
			default:
				x.hear(side, b)
			}
		}
	}
}
