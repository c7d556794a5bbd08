package client_test

import (
	"bytes"
	"fmt"
	"slices"
	"testing"

	"spindle/api"
	"spindle/client"
)

// A pair is a client and a plain one, of which the same is asked, and which hear the same. What is handed in has spare room, must come back as it was, and is written over then; so is what is answered, behind being looked at (R4).
type pair struct {
	t    *testing.T
	c    *client.Client
	p    *plain
	what string
}

func newPair(t *testing.T) *pair {
	t.Helper()
	x := &pair{t, fresh(t), newPlain(), "new"}
	x.look()
	return x
}

// answered holds the two answers to an asking against each other.
func (x *pair) answered(call string, b []byte, e api.Errno, wanted []byte, f api.Errno) api.Errno {
	x.t.Helper()
	want(x.t, x.what+": "+call, e, f)
	wantBytes(x.t, x.what+": "+call, b, wanted)
	spoil(b, 0xea)
	x.look()
	return e
}

func (x *pair) flags(f uint32) api.Errno {
	x.t.Helper()
	b, e := x.c.Flags(f)
	wanted, g := x.p.setFlags(f)
	return x.answered(fmt.Sprint("Flags ", f), b, e, wanted, g)
}

func (x *pair) option(code uint32, data []byte) api.Errno {
	x.t.Helper()
	handed := roomy(data, 0xaa)
	before := bytes.Clone(whole(handed))
	b, e := x.c.Option(code, handed)
	wantBytes(x.t, x.what+": what Option was handed", whole(handed), before)
	spoil(handed, 0xee)
	wanted, f := x.p.ask(code, data)
	return x.answered(fmt.Sprint("Option ", code), b, e, wanted, f)
}

func (x *pair) info(start bool, r api.InfoRequest) api.Errno {
	x.t.Helper()
	handed := roomy(r.Infos, 0xaaaa)
	before := slices.Clone(whole(handed))
	b, e := x.c.Info(start, api.InfoRequest{Name: r.Name, Infos: handed})
	wantSame(x.t, x.what+": what Info was handed", whole(handed), before)
	spoil(handed, 0xeeee)
	wanted, f := x.p.info(start, r)
	return x.answered(fmt.Sprint("Info ", start), b, e, wanted, f)
}

func (x *pair) meta(set bool, r api.MetaRequest) api.Errno {
	x.t.Helper()
	handed := roomy(r.Queries, "spare")
	before := slices.Clone(whole(handed))
	b, e := x.c.Meta(set, api.MetaRequest{Name: r.Name, Queries: handed})
	wantSame(x.t, x.what+": what Meta was handed", whole(handed), before)
	spoil(handed, "spoilt")
	wanted, f := x.p.meta(set, r)
	return x.answered(fmt.Sprint("Meta ", set), b, e, wanted, f)
}

func (x *pair) request(r api.Request) api.Errno {
	x.t.Helper()
	handed := r
	handed.Data = roomy(r.Data, 0xaa)
	before := bytes.Clone(whole(handed.Data))
	b, cookie, e := x.c.Request(handed)
	wantBytes(x.t, x.what+": what Request was handed", whole(handed.Data), before)
	spoil(handed.Data, 0xee)
	wanted, number, f := x.p.request(r)
	want(x.t, x.what+": the cookie", cookie, number)
	return x.answered(fmt.Sprintf("Request %d", r.Type), b, e, wanted, f)
}

// in lets both hear bytes; it answers what the plain one has heard.
func (x *pair) in(b []byte) []api.Event {
	x.t.Helper()
	handed := roomy(b, 0xaa)
	before := bytes.Clone(whole(handed))
	heard := x.c.In(handed)
	wantBytes(x.t, x.what+": what In was handed", whole(handed), before)
	spoil(handed, 0xee)
	wanted := x.p.hear(b)
	wantEvents(x.t, x.what+": In", heard, wanted...)
	spoilEvents(heard)
	x.look()
	return wanted
}

// look looks that all that is told of the two is the same.
func (x *pair) look() {
	x.t.Helper()
	want(x.t, x.what+": Phase", x.c.Phase(), x.p.phase)
	got := listed(x.c)
	if !slices.Equal(got, x.p.outstanding()) {
		x.t.Errorf("%s: outstanding %+v, want %+v", x.what, got, x.p.outstanding())
	}
	if x.t.Failed() {
		x.t.FailNow()
	}
}

// begin leads a pair to the transmission, in some form.
func (x *pair) begin(f form) {
	x.t.Helper()
	x.in(greetingBytes(3))
	x.flags(3)
	for _, code := range []uint32{8, 11} {
		if code == 8 && f.chunks && !f.extended || code == 11 && f.extended {
			x.option(code, nil)
			x.in(ackBytes(code))
		}
	}
	if len(f.contexts) > 0 {
		x.meta(true, api.MetaRequest{Name: "a", Queries: []string{"x", "y"}})
		for _, id := range f.contexts {
			x.in(replyBytes(10, 4, metaBody(id, "x")...))
		}
		x.in(ackBytes(10))
	}
	x.info(true, api.InfoRequest{Name: "a"})
	x.in(lay(replyBytes(7, 3, exportBody(4096, 1)...), ackBytes(7)))
	want(x.t, x.what+": the phase", x.p.phase, api.ClientWork)
}
