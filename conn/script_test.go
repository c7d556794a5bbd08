package conn_test

import (
	"fmt"
	"testing"

	"spindle/api"
)

// A call is one of a script.
type call struct {
	name string
	do   func(x *pair)
}

// calls are those of the short scripts in the transmission, with Flight 2.
func calls(extended bool) []call {
	feed := func(q api.Request) func(*pair) {
		return func(x *pair) { x.feed(requestBytes(q, extended)) }
	}
	return []call{
		{"a read", feed(read(1, 0, 2))}, {"a wrong read", feed(read(2, max64, 2))}, {"DISC", feed(disc())}, {"no request", func(x *pair) { x.feed(make([]byte, 32)) }},
		{"Take", func(x *pair) { x.take() }}, {"Finish 1", func(x *pair) { x.finish(1, api.Outcome{Code: 5}) }}, {"Finish 2", func(x *pair) { x.finish(2, well(x.p.talk.Session(), read(1, 0, 2))) }},
		{"Send 1", func(x *pair) { x.send(1) }}, {"Send 2", func(x *pair) { x.send(2) }}, {"Shut", func(x *pair) { x.shut() }}, {"Out", func(x *pair) { x.out() }},
	}
}

// P14.1 to P14.13: every script of a few calls, from several beginnings.
func TestEveryShortScript(t *testing.T) {
	starts := []func(x *pair){
		func(*pair) {},
		func(x *pair) { x.feed(requestBytes(read(7, 0, 2), x.p.talk.Session().Extended)); x.take() },
		func(x *pair) {
			for range 2 {
				x.feed(requestBytes(read(8, 0, 2), x.p.talk.Session().Extended))
				x.take()
			}
			x.feed(requestBytes(disc(), x.p.talk.Session().Extended))
		},
	}
	const length = 3
	for _, f := range []form{{name: "plain"}, {name: "in chunks", structured: true}, {name: "extended", extended: true}} {
		list := calls(f.extended)
		scripts := len(list) * len(list) * len(list)
		for s, start := range starts {
			for n := range scripts {
				x := newPair(t, one(), small(2))
				x.begin(f, "a")
				x.out()
				start(x)
				x.what = fmt.Sprintf("%s, beginning %d", f.name, s)
				for place, left := 0, n; place < length; place, left = place+1, left/len(list) {
					c := list[left%len(list)]
					x.what += ", " + c.name
					c.do(x)
				}
				x.take()
				x.task(1)
				x.task(2)
				x.out()
			}
		}
	}
}

// thrownRequest throws for a request; mostly for one that the rules take, or nearly so.
func thrownRequest(d *dice, s api.Session, bytes uint64) api.Request {
	q := api.Request{
		Type:   pick[uint16](d, 0, 0, 0, 1, 1, 1, 3, 4, 5, 6, 7, 7, 8, 257),
		Flags:  pick[uint16](d, 0, 0, 0, 0, 0, 1, 2, 4, 8, 16, 32, 3, 64),
		Cookie: pick(d, 0, 1, max64, uint64(d.below(1000))),
		Offset: pick(d, 0, 0, 512, 1024, uint64(d.below(int(bytes))), bytes, bytes-1, max64),
		Length: pick(d, 1, 2, 512, 512, 512, 1024, 3, uint64(d.below(700)), 0, 513, max32),
	}
	if d.below(25) == 0 {
		q.Type = api.CmdDisc
	}
	if q.Type == api.CmdFlush && d.bool() {
		q.Offset, q.Length, q.Flags = 0, 0, 0
	}
	if q.Type == api.CmdWrite && s.Extended && d.below(6) > 0 {
		q.Flags |= api.FlagPayload
	}
	carries := q.Type == api.CmdWrite && !s.Extended || s.Extended && q.Flags&api.FlagPayload != 0
	if carries && q.Length > 700 && d.below(8) > 0 {
		q.Length = uint64(d.below(600))
	}
	if carries && q.Length < 5000 {
		q.Data = many(int(q.Length))
	}
	return q
}

// thrownOption throws for an option, as bytes.
func thrownOption(d *dice, exports []api.Export) []byte {
	name := pick(d, "", "nobody", exports[d.below(len(exports))].Name, exports[d.below(len(exports))].Name)
	switch d.below(30) {
	case 0:
		return option(api.OptAbort)
	case 1:
		return exportName(name)
	case 2:
		b := option(api.OptList)
		b[d.below(8)] ^= 1
		return b
	case 3, 24, 25:
		length := 401 + d.below(1000)
		return lay("IHAVEOPT", pick[uint32](d, 1, 3, 6, 7, 10, 10), uint32(length), many(length))
	case 4, 5, 6, 7:
		return option(pick[uint32](d, 3, 5, 6, 7, 9, 10, 77), many(d.below(12))...)
	case 8, 9, 10, 11, 12:
		return option(api.OptStructured)
	case 13, 14:
		return option(api.OptExtended)
	case 15, 16, 17, 18, 19, 20:
		return setMeta(name, pick(d, []string{"base:allocation"}, []string{"base:allocation", "spindle:unsaved", "spindle:dirty"}, nil, []string{"spindle:dirty", "x"})...)
	case 21:
		return option(api.OptListMeta, metaRequest(name)...)
	case 22, 23:
		return option(pick[uint32](d, 3, 6), pick(d, nil, infoRequest(name, 1, 2, 3))...)
	}
	return goTo(name)
}

// thrownMessage throws for what a client may say next, as far as it knows the phase.
func thrownMessage(d *dice, p *plain) []byte {
	s := p.talk.Session()
	switch {
	case d.below(60) == 0:
		return many(d.below(80))
	case p.phase == api.PhaseFlags:
		return flagBytes(pick[uint32](d, 3, 3, 3, 3, 3, 3, 1, 1, 1, 0, 2, 4))
	case p.phase == api.PhaseOptions:
		return thrownOption(d, p.exports)
	}
	return requestBytes(thrownRequest(d, s, uint64(p.exports[s.Index].Sectors)*512), s.Extended)
}

// thrownOutcome throws for what a task has come to, mostly for one that fits.
func thrownOutcome(d *dice, s api.Session, q api.Request) api.Outcome {
	switch d.below(8) {
	case 0:
		return api.Outcome{}
	case 1:
		return api.Outcome{Code: pick(d, api.EIO, api.ENotSup, 1234)}
	case 2:
		return api.Outcome{Code: api.EIO, Placed: true, At: q.Offset + uint64(d.below(3))}
	case 3:
		return api.Outcome{Pieces: []api.Piece{{Off: q.Offset, Len: uint32(q.Length), Hole: true}}}
	}
	if q.Length > 5000 {
		return api.Outcome{Code: api.EIO}
	}
	return well(s, q)
}

// step makes one call that is thrown on both; said is what the client has to say and could not yet, for want of room.
func (x *pair) step(d *dice, said []byte) []byte {
	x.t.Helper()
	id := x.p.given + 1 - d.below(x.p.limits.Flight+3)
	switch n := d.below(200); {
	case n < 60:
		if len(said) == 0 {
			said = thrownMessage(d, x.p)
		}
		part := min(len(said), pick(d, 1, 4, 28, 32, len(said), len(said), len(said)))
		said = said[x.feed(said[:part]):]
	case n < 120:
		x.take()
	case n < 130:
		x.task(id)
	case n < 155:
		task, e := x.p.task(id)
		if e != api.OK {
			task.Req = read(1, 0, 512)
		}
		x.finish(id, thrownOutcome(d, x.p.talk.Session(), task.Req))
	case n < 180:
		x.send(id)
	case n < 198:
		x.out()
	case n == 198 && d.below(10) == 0:
		x.shut()
	default:
		x.feed(nil)
	}
	return said
}

// thrownLimits throws for limits.
func thrownLimits(d *dice) api.Limits {
	return api.Limits{Payload: pick[uint32](d, 512, 600, 1024), Option: pick[uint32](d, 64, 300, 400), Flight: pick(d, 1, 2, 3, 5, 64)}
}

// thrownForm throws for a form; contexts are asked for by options that are too long for some limits.
func thrownForm(d *dice, l api.Limits) form {
	if l.Option < 100 {
		return pick(d, forms()[:3]...)
	}
	return pick(d, forms()...)
}

// P14.1 to P14.13: long scripts of calls in any order against the plain reading; all that a connection can come to is met.
func TestThrownScripts(t *testing.T) {
	d := dice(14)
	met := map[string]int{}
	for run := range 2500 {
		exports := pick(&d, one(), several(), several())
		x := newPair(t, exports, thrownLimits(&d))
		x.what = fmt.Sprint("run ", run)
		if d.below(3) > 0 {
			x.begin(thrownForm(&d, x.p.limits), exports[d.below(len(exports))].Name)
		}
		var said []byte
		for range 20 + d.below(400) {
			said = x.step(&d, said)
			met[fmt.Sprint("phase ", x.p.phase)]++
			if len(x.p.tasks) == x.p.limits.Flight {
				met["full"]++
			}
			if x.p.over > 0 {
				met["passing over"]++
			}
			if x.p.talk.Session().Extended && len(x.p.tasks) > 0 {
				met["extended"]++
			}
			if len(x.p.talk.Session().Contexts) > 0 {
				met["contexts"]++
			}
		}
		x.out()
	}
	for _, what := range []string{"phase 1", "phase 2", "phase 3", "phase 4", "phase 5", "full", "passing over", "extended", "contexts"} {
		if met[what] < 500 {
			t.Errorf("%s: only %d times", what, met[what])
		}
	}
}

// R5, R9: several connections in turns, with exports and limits of their own: none knows of another.
func TestInTurns(t *testing.T) {
	d := dice(15)
	for run := range 60 {
		var pairs []*pair
		said := make([][]byte, 5)
		for i := range said {
			x := newPair(t, pick(&d, one(), several()), thrownLimits(&d))
			x.what = fmt.Sprintf("run %d, connection %d", run, i)
			if i > 0 {
				x.begin(forms()[i%3], "")
			}
			pairs = append(pairs, x)
		}
		for range 1500 {
			i := d.below(len(pairs))
			said[i] = pairs[i].step(&d, said[i])
		}
		for _, x := range pairs {
			x.out()
		}
	}
}
