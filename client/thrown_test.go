package client_test

import (
	"bytes"
	"fmt"
	"slices"
	"strings"
	"testing"

	"spindle/api"
	"spindle/client"
)

// thrownMessage throws for what a server may say next to a client that stands like this, mostly for what it may say.
func thrownMessage(d *dice, p *plain) []byte {
	var b []byte
	switch {
	case p.phase == api.ClientGreeting && !p.greeted:
		b = greetingBytes(pick[uint16](d, 3, 3, 3, 3, 3, 3, 1, 1, 1, 0, 2, 7))
	case p.phase == api.ClientOptions && len(p.option) == 1 && p.option[0] == 1:
		b = exportBytes(uint64(d.below(9999)), uint16(d.below(5)), p.said < 2)
	case p.phase == api.ClientOptions && len(p.option) == 1:
		b = thrownReply(d, p)
	case len(p.list) > 0:
		b = thrownAnswer(d, p, p.list[d.below(len(p.list))])
	case d.below(40) == 0:
		return many(1 + d.below(40))
	}
	if len(b) > 0 && d.below(60) == 0 {
		b[pick(d, d.below(len(b)), d.below(min(len(b), 32)))] ^= pick[byte](d, 1, 2, 128, byte(d.below(256)))
	}
	return b
}

// thrownReply throws for an answer to the option that is outstanding.
func thrownReply(d *dice, p *plain) []byte {
	code := p.option[0]
	switch {
	case d.below(12) == 0:
		return replyBytes(code, 1<<31+uint32(d.below(12)), many(d.below(9))...)
	case d.below(50) == 0:
		return replyBytes(code, uint32(d.below(6)), many(d.below(9))...)
	case (code == 6 || code == 7) && p.infos == 0 && d.below(30) > 0:
		return replyBytes(code, 3, exportBody(uint64(d.below(99999)), uint16(d.below(999)))...)
	case d.below(2) == 0:
		return ackBytes(code)
	case code == 3:
		return replyBytes(3, 2, serverBody(strings.Repeat("é", d.below(5)), many(d.below(3))...)...)
	case code == 6 || code == 7:
		return replyBytes(code, 3, pick(d, lay(uint16(1), "name"), lay(uint16(2), "text"), lay(uint16(3), uint64(9), uint32(3)), lay(uint16(77), many(d.below(5))))...)
	case code == 9 || code == 10:
		return replyBytes(code, 4, metaBody(uint32(d.below(40)), "x:y")...)
	}
	return ackBytes(code)
}

// thrownAnswer throws for an answer, or a part of one, to an outstanding request.
func thrownAnswer(d *dice, p *plain, q *plainRequest) []byte {
	cookie := q.Cookie
	if d.below(150) == 0 {
		cookie = uint64(d.below(10))
	}
	simple := !p.chunks || !p.extended && q.Type != api.CmdRead && q.Type != api.CmdStatus && d.below(3) > 0
	if d.below(100) == 0 {
		simple = !simple
	}
	if simple {
		code := pick[uint32](d, 0, 0, 0, 5)
		if q.Type != api.CmdRead || code != 0 {
			return simpleBytes(code, cookie)
		}
		return simpleBytes(0, cookie, many(int(q.Length))...)
	}
	kind, body, last := thrownChunk(d, p, q)
	flags := uint16(0)
	if last {
		flags = 1
	}
	if d.below(100) == 0 {
		flags = pick[uint16](d, 0, 1, 2, 3)
	}
	off := q.Offset
	if d.below(100) == 0 {
		off ^= 1
	}
	return chunkBytes(p.extended, flags, kind, cookie, off, body...)
}

// thrownChunk throws for a chunk's type and body, and whether it is to be the last.
func thrownChunk(d *dice, p *plain, q *plainRequest) (uint16, []byte, bool) {
	switch n := d.below(40); {
	case n < 2:
		return api.ChunkError, errorBody(uint32(1+d.below(99)), pick(d, "", "why")), d.bool()
	case n == 2:
		return api.ChunkErrorAt, errorAtBody(uint32(1+d.below(99)), "", q.Offset+uint64(d.below(int(min(q.Length, 500))+1))), d.bool()
	case n == 3:
		return pick[uint16](d, 0, 1, 2, 5, 6, 7, 32769, 32770), many(d.below(20)), d.bool()
	case q.Type == api.CmdRead:
		return thrownPart(d, q)
	case q.Type == api.CmdStatus:
		return thrownStatus(d, p, q)
	}
	return api.ChunkNone, nil, true
}

// thrownPart throws for a part of a read that was not told.
func thrownPart(d *dice, q *plainRequest) (uint16, []byte, bool) {
	lo := slices.Index(q.told, 0)
	if lo < 0 {
		return api.ChunkNone, nil, true
	}
	if d.bool() {
		lo = d.below(len(q.told))
		for q.told[lo] > 0 {
			lo = (lo + 1) % len(q.told)
		}
	}
	n := 1
	for lo+n < len(q.told) && q.told[lo+n] == 0 {
		n++
	}
	if q.flags&api.FlagDF == 0 && d.bool() {
		n = 1 + d.below(n)
	}
	missing := 0
	for _, told := range q.told {
		missing += 1 - told
	}
	last := missing == n && d.below(4) > 0
	if d.below(60) == 0 {
		lo, n = lo+d.below(3)-1, n+d.below(3)-1
	}
	off := q.Offset + uint64(lo)
	if q.flags&api.FlagDF == 0 && d.below(3) == 0 {
		return api.ChunkHole, holeBody(off, uint32(n)), last
	}
	return api.ChunkData, dataBody(off, many(n)...), last
}

// thrownStatus throws for a context that was chosen and not told, and its runs.
func thrownStatus(d *dice, p *plain, q *plainRequest) (uint16, []byte, bool) {
	var left []uint32
	for _, id := range p.chosen {
		if !slices.ContainsFunc(q.status, func(s api.ContextRuns) bool { return s.Context == id }) {
			left = append(left, id)
		}
	}
	if len(left) == 0 {
		return api.ChunkNone, nil, true
	}
	id := left[d.below(len(left))]
	if d.below(60) == 0 {
		id = uint32(d.below(40))
	}
	var runs []run
	for sum := uint64(0); sum < q.Length && (len(runs) == 0 || q.flags&api.FlagOne == 0 && d.bool()); {
		n := 1 + uint64(d.below(int(min(q.Length-sum, 100))))
		sum += n
		runs = append(runs, run{n, uint64(d.below(4))})
	}
	if d.below(60) == 0 {
		runs = append(runs, run{uint64(d.below(3)), 1})
	}
	kind := uint16(5)
	if p.extended {
		kind = 6
	}
	return kind, statusBody(p.extended, id, runs...), len(left) == 1 && d.below(4) > 0
}

// An act is a call of a script: an asking, or bytes that are heard.
type act struct {
	ask  func(c *client.Client) // nil, if bytes are heard
	said []byte
}

// asked throws for an asking, mostly for one that may be, and does it on both; it answers the same as an act.
func (x *pair) asked(d *dice) act {
	phase := x.p.phase
	if d.below(10) == 0 {
		phase = api.ClientPhase(1 + d.below(5))
	}
	switch phase {
	case api.ClientGreeting:
		f := pick[uint32](d, 3, 3, 3, 3, 1, 1, 0, 2, 4)
		x.flags(f)
		return act{ask: func(c *client.Client) { c.Flags(f) }}
	case api.ClientOptions:
		return x.askedOption(d)
	}
	q := thrownRequest(d, x.p)
	x.request(q)
	return act{ask: func(c *client.Client) { c.Request(q) }}
}

func (x *pair) askedOption(d *dice) act {
	kind := d.bool()
	switch n := d.below(24); {
	case n < 6:
		code := pick[uint32](d, 8, 8, 11)
		x.option(code, nil)
		return act{ask: func(c *client.Client) { c.Option(code, nil) }}
	case n < 10:
		code, data := pick[uint32](d, 1, 2, 3, 3, 3, 5, 77), many(d.below(6))
		x.option(code, data)
		return act{ask: func(c *client.Client) { c.Option(code, data) }}
	case n < 16:
		r := api.MetaRequest{Name: pick(d, "a", "a", "\xff"), Queries: make([]string, pick(d, 0, 1, 2, 17))}
		x.meta(kind, r)
		return act{ask: func(c *client.Client) { c.Meta(kind, r) }}
	}
	r := api.InfoRequest{Name: pick(d, "a", "a", "a", "a\x00"), Infos: make([]uint16, pick(d, 0, 1, 2, 65))}
	x.info(kind, r)
	return act{ask: func(c *client.Client) { c.Info(kind, r) }}
}

// thrownRequest throws for a request, mostly for one that may be asked.
func thrownRequest(d *dice, p *plain) api.Request {
	q := api.Request{
		Type:   pick[uint16](d, 0, 0, 0, 0, 0, 1, 3, 4, 6, 7, 7, 7, 9),
		Flags:  pick[uint16](d, 0, 0, 0, 0, 1, 4, 4, 8, 8, 32),
		Cookie: uint64(d.below(9)),
		Offset: pick(d, 0, 0, 512, uint64(d.below(9999)), max64-20, max64),
		Length: pick(d, 0, 1, 2, 16, 16, 33, 100, 512, uint64(d.below(900))),
	}
	switch {
	case d.below(150) == 0:
		q.Type = api.CmdDisc
	case d.below(50) == 0:
		q.Length = pick[uint64](d, api.MaxPayload+1, max32+1, max64)
	}
	if paid := q.Type == api.CmdWrite || p.extended && q.Flags&32 != 0; (paid || d.below(30) == 0) && q.Length < 5000 {
		q.Data = many(int(q.Length))
	}
	if d.below(40) == 0 {
		q.Data = append(q.Data, 1)
	}
	return q
}

// step makes one call that is thrown on both. Behind some bytes of a message the rest is said at once or later; it answers what is left of it.
func (x *pair) step(d *dice, said []byte) ([]byte, act, []api.Event) {
	x.t.Helper()
	busy := len(x.p.list) > 5 || x.p.phase == api.ClientOptions && len(x.p.option) == 1
	if d.below(10) < 3 && !(busy && d.below(10) > 0) {
		return said, x.asked(d), nil
	}
	if len(said) == 0 {
		said = thrownMessage(d, x.p)
	}
	part := min(len(said), pick(d, 1, 5, 17, 28, len(said), len(said), len(said), len(said), len(said)))
	return said[part:], act{said: bytes.Clone(said[:part])}, x.in(said[:part])
}

// count counts what was heard.
func count(met map[string]int, p *plain, events []api.Event) {
	for _, e := range events {
		what := fmt.Sprint("event ", e.Kind)
		if e.Kind == api.EvDone {
			what += fmt.Sprintf(", code %v, data %v, status %v, chunks %v, extended %v", e.Code != 0, len(e.Data) > 0, len(e.Status) > 0, p.chunks, p.extended)
		}
		met[what]++
	}
	met[fmt.Sprint("phase ", p.phase)]++
}

// P16.1 to P16.7: long scripts of calls in any order against the plain reading; all that can be heard is met.
func TestThrownScripts(t *testing.T) {
	d := dice(16)
	met := map[string]int{}
	for r := range 6000 {
		x := newPair(t)
		x.what = fmt.Sprint("run ", r)
		if d.below(3) > 0 {
			x.begin(pick(&d, forms()...))
		}
		var said []byte
		for n := range 20 + d.below(200) {
			x.what = fmt.Sprintf("run %d, step %d", r, n)
			var events []api.Event
			said, _, events = x.step(&d, said)
			count(met, x.p, events)
			if x.p.phase == api.ClientBroken && d.below(4) == 0 {
				break
			}
		}
	}
	for k := api.EvGreeting; k <= api.EvBroken; k++ {
		if k != api.EvDone && met[fmt.Sprint("event ", k)] < 200 {
			t.Errorf("event %d only %d times", k, met[fmt.Sprint("event ", k)])
		}
	}
	for k := api.ClientGreeting; k <= api.ClientBroken; k++ {
		if met[fmt.Sprint("phase ", k)] < 1000 {
			t.Errorf("phase %d only %d times", k, met[fmt.Sprint("phase ", k)])
		}
	}
	for _, what := range []string{
		"code false, data true, status false, chunks false, extended false", "code true, data false, status false, chunks false, extended false",
		"code false, data true, status false, chunks true, extended false", "code true, data false, status false, chunks true, extended false",
		"code false, data true, status false, chunks true, extended true", "code true, data false, status false, chunks true, extended true",
		"code false, data false, status true, chunks true, extended false", "code false, data false, status true, chunks true, extended true",
		"code false, data false, status false, chunks true, extended true", "code false, data false, status false, chunks false, extended false",
	} {
		if n := met["event 8, "+what]; n < 200 {
			t.Errorf("%s: only %d times", what, n)
		}
	}
}

// R5, R9: several clients in turns: none knows of another.
func TestInTurns(t *testing.T) {
	d := dice(17)
	for r := range 40 {
		var pairs []*pair
		said := make([][]byte, 5)
		for i := range said {
			x := newPair(t)
			x.what = fmt.Sprintf("run %d, client %d", r, i)
			if i > 0 {
				x.begin(forms()[i%3])
			}
			pairs = append(pairs, x)
		}
		for range 1500 {
			i := d.below(len(pairs))
			said[i], _, _ = pairs[i].step(&d, said[i])
			pairs[d.below(len(pairs))].look()
		}
	}
}

// R5: the same calls give the same answers, however often they are made.
func TestAgain(t *testing.T) {
	var first string
	for range 20 {
		d := dice(5)
		x := newPair(t)
		x.begin(extended)
		var said []byte
		var all strings.Builder
		for range 300 {
			var events []api.Event
			said, _, events = x.step(&d, said)
			all.WriteString(told(events) + told(listed(x.c)))
		}
		if first == "" {
			first = all.String()
		}
		want(t, "told again", all.String() == first, true)
	}
}
