package engine_test

import (
	"testing"

	"spindle/api"
)

// What the whole promises (W1, W2, W6, W7), as a report tells it: clients talk to a server, in whatever order things are done, and what they hear is held against arrays of bytes.

// A talk is a script of three clients, of which the client n has the connection n and begins with the export goes[n].
type talk struct {
	s     script
	goes  [3]int
	crash bool
}

var talkExports = []api.Export{
	{Name: "a", Sectors: 6, Min: 1, Pref: 512, Tracked: true},
	{Name: "b", Sectors: 3, Min: 1, Pref: 512},
	{Name: "p", Sectors: 4, Min: 1, Pref: 512, Private: true},
}

func throwTalk(d *dice) talk {
	x := talk{s: script{
		Sectors: 80,
		Label:   api.Label{Exports: talkExports},
		Config:  api.Config{Lines: 1 + d.below(5), Conns: 3, Limits: api.Limits{Payload: 1024, Option: 256, Flight: 1 + d.below(5)}},
	}}
	add := func(l ...line) { x.s.Lines = append(x.s.Lines, l...) }
	for who := range x.goes {
		add(asks(who, ask{Kind: api.AskOpen}), asks(who, ask{Kind: api.AskFlags, Flags: 3}))
		if d.bool() {
			add(asks(who, ask{Kind: pick(d, api.AskStructured, api.AskExtended)}), line{Kind: api.LineMove, Who: who})
		}
		x.goes[who] = pick(d, 0, 0, 1, 2)
		add(asks(who, ask{Kind: api.AskGo, Name: talkExports[x.goes[who]].Name}), line{Kind: api.LineMove, Who: who})
	}
	for range 20 + d.below(120) {
		who := d.below(3)
		switch d.below(10) {
		case 0:
			add(line{Kind: api.LineSay, Who: who, N: d.below(60)})
		case 1:
			add(line{Kind: api.LineSay, Who: who, N: 5000}, stepLine(step{Kind: api.STake, Conn: who}))
		case 2:
			add(stepLine(step{Kind: api.STake, Conn: who}))
		case 3:
			add(stepLine(step{Kind: api.SRun, Conn: who, N: d.below(3)}))
		case 4:
			add(stepLine(step{Kind: api.SSend, Conn: who, N: d.below(3)}))
		case 5:
			add(pick(d, stepLine(step{Kind: api.SWrite}), stepLine(step{Kind: api.SClear}), line{Kind: api.LineMove, Who: who}, line{Kind: api.LineMove, Who: who}))
		default:
			add(asks(who, ask{Kind: api.AskRequest, Req: talkRequest(d, 512*talkExports[x.goes[who]].Sectors)}))
		}
	}
	for who := range x.goes {
		add(line{Kind: api.LineMove, Who: who})
	}
	if x.crash = d.bool(); x.crash {
		add(stepLine(step{Kind: api.SCrash, Keep: []bool{d.bool(), d.bool(), d.bool(), d.bool()}}), stepLine(step{Kind: api.SStart}))
	}
	return x
}

func talkRequest(d *dice, size int) api.Request {
	off := d.below(size)
	if d.bool() {
		off &^= 511
	}
	n := 1 + d.below(min(size-off, 1024))
	q := api.Request{Type: uint16(pick(d, api.CmdRead, api.CmdRead, api.CmdWrite, api.CmdWrite, api.CmdZeroes, api.CmdTrim)), Offset: uint64(off), Length: uint64(n)}
	if d.below(12) == 0 {
		return api.Request{Type: api.CmdFlush}
	}
	if q.Type != api.CmdRead && d.below(8) == 0 {
		q.Flags = api.FlagFua
	}
	if q.Type == api.CmdWrite {
		q.Data = make([]byte, n)
		for i := range q.Data {
			q.Data[i] = byte(1 + d.below(255))
		}
	}
	if d.below(30) == 0 {
		q.Offset = uint64(size) // out of bounds: refused
	}
	return q
}

// A hall is what the promises say of a talk.
type hall struct {
	t     *testing.T
	goes  [3]int
	bytes [3][]byte            // of the exports
	own   [3][]byte            // of the clients of a private export
	may   [3][]map[string]bool // of each sector, what a crash may leave there
	tasks map[[2]int]api.Request
	dues  map[[2]int]event // by client and cookie
}

func newHall(t *testing.T, x talk) *hall {
	h := &hall{t: t, goes: x.goes, tasks: map[[2]int]api.Request{}, dues: map[[2]int]event{}}
	for i, e := range talkExports {
		h.bytes[i] = make([]byte, 512*e.Sectors)
		h.may[i] = make([]map[string]bool, e.Sectors)
	}
	for who := range h.own {
		h.own[who] = make([]byte, 512*talkExports[2].Sectors)
	}
	h.safe()
	return h
}

// sector is what a sector has now.
func (h *hall) sector(export, n int) string { return string(h.bytes[export][512*n:][:512]) }

// safe: all that is there was told to be safe.
func (h *hall) safe() {
	for i := range h.may {
		for n := range h.may[i] {
			h.may[i][n] = map[string]bool{h.sector(i, n): true}
		}
	}
}

// ran does a task against the array of its connection, and notes what its client must hear.
func (h *hall) ran(conn int, q api.Request, code uint32) {
	due := event{Kind: api.EvDone, Cookie: q.Cookie, Code: code}
	export, private := h.goes[conn], h.goes[conn] == 2
	b := h.bytes[export]
	if private {
		b = h.own[conn]
	}
	lo, hi := int(q.Offset), int(q.Offset+q.Length)
	switch q.Type {
	case api.CmdRead:
		due.Data = append([]byte{}, b[lo:hi]...)
	case api.CmdWrite:
		copy(b[lo:hi], q.Data)
	case api.CmdZeroes:
		clear(b[lo:hi])
	case api.CmdTrim:
		if from, to := (lo+511)/512*512, hi/512*512; from < to {
			clear(b[from:to])
		}
	case api.CmdFlush:
		if !private {
			h.safe()
		}
	}
	h.dues[[2]int{conn, int(q.Cookie)}] = due
	for n := lo / 512; !private && q.Type != api.CmdFlush && n*512 < hi; n++ {
		if q.Flags&api.FlagFua != 0 {
			h.may[export][n] = map[string]bool{}
		}
		h.may[export][n][h.sector(export, n)] = true
	}
}

// follow follows what came of a line.
func (h *hall) follow(l line, x heard) {
	who := l.Who
	for i, s := range x.Steps {
		a := x.Answers[i]
		who = s.Conn
		task := [2]int{s.Conn, a.N}
		switch {
		case a.Err != api.OK:
		case s.Kind == api.STake && a.Took.Kind == api.TookRequest && a.Took.Refused:
			h.dues[[2]int{s.Conn, int(a.Took.Task.Req.Cookie)}] = event{Kind: api.EvDone, Cookie: a.Took.Task.Req.Cookie, Code: api.EInval}
		case s.Kind == api.STake && a.Took.Kind == api.TookRequest:
			h.tasks[[2]int{s.Conn, a.Took.Task.ID}] = a.Took.Task.Req
		case s.Kind == api.SRun:
			h.ran(s.Conn, h.tasks[task], a.Code)
		case s.Kind == api.SClear:
			h.safe()
		}
	}
	for _, v := range x.Events {
		if v.Kind == api.EvDone {
			h.done(who, v)
		}
		want(h.t, "no client hears that its server is broken", v.Kind != api.EvBroken, true)
	}
}

// done holds what a client hears of a request against what it must hear; once.
func (h *hall) done(who int, v event) {
	key := [2]int{who, int(v.Cookie)}
	due, ok := h.dues[key]
	want(h.t, "a request is answered that was done, and once", ok, true)
	delete(h.dues, key)
	if due.Code == api.EInval {
		due.Code = v.Code // which error it is other tests ask
		want(h.t, "a refused request has an error", v.Code != 0, true)
	}
	wantSame(h.t, "what a client hears", v, due)
}

// end holds the bytes at the end against the arrays, or against what a crash may leave of them.
func (h *hall) end(x talk, r api.Report) {
	want(h.t, "it is up", r.Up, true)
	want(h.t, "answers that nobody heard", len(h.dues), 0)
	for i := range h.bytes {
		for n := range h.may[i] {
			got := string(r.Exports[i][512*n:][:512])
			if x.crash && !h.may[i][n][got] || !x.crash && got != h.sector(i, n) {
				h.t.Errorf("the sector %d of export %d is another one", n, i)
			}
		}
	}
}

func TestTalks(t *testing.T) {
	answered, lost := 0, 0
	for seed := range 300 {
		d := dice(seed)
		x := throwTalk(&d)
		r := ran(t, x.s)
		h := newHall(t, x)
		askedFor, heardOf := 0, 0
		for i, l := range x.s.Lines {
			h.follow(l, r.Heard[i])
			if r.Heard[i].Cookie != 0 {
				askedFor++
			}
			for _, v := range r.Heard[i].Events {
				if v.Kind == api.EvDone {
					heardOf++
				}
			}
		}
		h.end(x, r)
		want(t, "each request is answered", heardOf, askedFor)
		answered += heardOf
		for i := range h.bytes {
			if x.crash && string(r.Exports[i]) != string(h.bytes[i]) {
				lost++
			}
		}
		if t.Failed() {
			text, _ := printOf(t, x.s)
			t.Fatalf("talk %d:\n%s", seed, text)
		}
	}
	want(t, "requests were answered, and crashes took something back", answered > 5000 && lost > 20, true)
}

// W10: a script's steps, taken out of its report, do the same to another server by themselves.
func TestStepsOfATalkAgain(t *testing.T) {
	for seed := range 60 {
		d := dice(seed)
		x := throwTalk(&d)
		r := ran(t, x.s)
		again := x.s
		again.Lines = nil
		var steps []step
		var answers []answer
		for _, h := range r.Heard {
			steps, answers = append(steps, h.Steps...), append(answers, h.Answers...)
		}
		for _, s := range steps {
			again.Lines = append(again.Lines, stepLine(s))
		}
		ra := ran(t, again)
		for i, h := range ra.Heard {
			wantSame(t, "a step again", h.Answers, answers[i:i+1])
			want(t, "nobody hears it", len(h.Events), 0)
		}
		ra.Heard, r.Heard = nil, nil
		wantSame(t, "the end", ra, r)
	}
}
