package nego_test

import (
	"fmt"
	"slices"
	"testing"

	"spindle/api"
	"spindle/nego"
)

// thrownData throws for what an option may carry, mostly of its kind and right.
func thrownData(d *dice, code uint32, names []string) []byte {
	name := pick(d, names...)
	queries := []string{"base:allocation", "spindle:unsaved", "spindle:dirty", "base:", "spindle:", "", "x", "base"}
	var b []byte
	switch code {
	case api.OptExportName:
		return []byte(name)
	case api.OptInfo, api.OptGo:
		b = infoRequest(name, some(d, pick(d, 1, 5, 5, 80), uint16(0), 1, 2, 3, 3, 3, 4, 77)...)
	case api.OptListMeta, api.OptSetMeta:
		b = metaRequest(name, some(d, pick(d, 1, 4, 4, 20), queries...)...)
	default:
		return make([]byte, pick(d, 0, 0, 0, 1, 9))
	}
	switch d.below(12) {
	case 0:
		b = b[:d.below(len(b)+1)]
	case 1:
		b = append(b, byte(d.below(3)))
	case 2:
		b[d.below(len(b))] ^= byte(1 << d.below(8))
	}
	return b
}

// thrownOption throws for an option; those that end a talk are rarer.
func thrownOption(d *dice, names []string) api.Option {
	code := pick(d, every()...)
	if d.below(3) > 0 {
		code = pick[uint32](d, api.OptList, api.OptInfo, api.OptStructured, api.OptListMeta, api.OptSetMeta, api.OptSetMeta, api.OptExtended, api.OptGo)
	}
	if (code == api.OptExportName || code == api.OptAbort) && d.below(4) > 0 {
		code = api.OptSetMeta
	}
	data := thrownData(d, code, names)
	return api.Option{Code: code, Len: pick(d, uint32(len(data)), 0, max32), Long: d.below(15) == 0, Data: data}
}

// wantFollows looks at P10.13, W3: what may answer an option at all, and what may follow.
func wantFollows(t *testing.T, what string, old bool, o api.Option, l []api.OptionReply, s api.NegoStep) {
	t.Helper()
	if o.Code == api.OptExportName || old {
		want(t, what+": how many replies", len(l), 0)
		want(t, what+": goes on", s.Kind == api.NegoOn, false)
		return
	}
	of := map[uint32][]uint32{
		api.OptList: {api.RepServer}, api.OptInfo: {api.RepInfo}, api.OptGo: {api.RepInfo}, api.OptListMeta: {api.RepMeta}, api.OptSetMeta: {api.RepMeta},
	}
	last := len(l) - 1
	if last < 0 {
		t.Fatalf("%s: no reply", what)
	}
	for i, r := range l {
		want(t, what+": the code", r.Option, o.Code)
		if i < last && !slices.Contains(of[o.Code], r.Kind) {
			t.Errorf("%s: a reply of the kind %#x", what, r.Kind)
		}
	}
	want(t, what+": how many Data at the last", len(l[last].Data), 0)
	refused := slices.Contains([]uint32{api.RepUnsup, api.RepInvalid, api.RepUnknown, api.RepBlockSize, api.RepTooBig}, l[last].Kind)
	want(t, what+": closed", refused || l[last].Kind == api.RepAck, true)
	want(t, what+": a refusal stands alone", refused && last > 0, false)
	begins := o.Code == api.OptGo && !refused
	want(t, what+": begins", s.Kind == api.NegoStart, begins)
	want(t, what+": ends", s.Kind == api.NegoEnd, o.Code == api.OptAbort && !refused)
	want(t, what+": an old beginning", s.Old || s.Zeroes || s.Export != api.ExportReply{}, false)
}

// namesOf are the names of exports, the empty one, and some of nobody.
func namesOf(exports []api.Export) []string {
	names := []string{"", "", "nobody", "\xff", "r "}
	for _, e := range exports {
		names = append(names, e.Name, e.Name)
	}
	return names
}

// Every promise of the chapter: whatever is asked, in whatever order, a talk answers as a plain reading of it does.
func TestThrown(t *testing.T) {
	d := dice(10)
	for run := range 6000 {
		exports := pick(&d, two(), mixed(), mixed(), pair(), nested(), full())
		l := api.Limits{Payload: uint32(512 + d.below(1<<20-511)), Option: uint32(64 + d.below(65473)), Flight: 1 + d.below(64)}
		x, e := nego.New(exports, l)
		wantErr(t, "New", e, api.OK)
		p := newPlain(exports, l.Payload)
		names := namesOf(exports)
		for step := range 1 + d.below(40) {
			what := fmt.Sprintf("run %d, step %d", run, step)
			if d.below(12) == 0 || step == d.below(3) {
				f := pick[uint32](&d, 0, 1, 1, 2, 3, 3, 3, 3, 4, max32)
				wantErr(t, what+", Flags", x.Flags(f), p.setFlags(f))
			}
			o := thrownOption(&d, names)
			wantAsPlain(t, what, x, p, o)
			want(t, what+", the greeting", x.Greeting(), api.Greeting{Flags: 3})
			if t.Failed() {
				return
			}
		}
	}
}

// wantAsPlain asks an option of a talk and of a plain one, and looks that all is alike.
func wantAsPlain(t *testing.T, what string, x *nego.Talk, p *plain, o api.Option) {
	t.Helper()
	what += ", " + named(o)
	got, gotStep, gotErr := x.Option(o)
	replies, step, e := p.option(o)
	wantErr(t, what, gotErr, e)
	want(t, what+": what follows", gotStep, step)
	if !same(got, replies) {
		t.Errorf("%s: %s, want %s", what, short(got), short(replies))
	}
	if gotErr == api.OK {
		wantFollows(t, what, p.flags&1 == 0, o, got, gotStep)
	} else {
		want(t, what+": what follows", gotStep, api.NegoStep{})
		want(t, what+": how many replies", len(got), 0)
	}
	wantSession(t, what, x, p.session(), p.begun)
}

// P10.13: every pair of options, the first of which may do what it likes.
func TestPairs(t *testing.T) {
	var options []api.Option
	for _, code := range every() {
		options = append(options, proper(code), sent(code, 'a'), api.Option{Code: code, Long: true, Len: 70000})
	}
	for _, first := range options {
		for _, second := range options {
			for _, chunks := range []bool{false, true} {
				x, p := talk(t, mixed(), 3), newPlain(mixed(), 512)
				p.setFlags(3)
				if chunks {
					wantAsPlain(t, "chunks", x, p, sent(api.OptStructured))
				}
				wantAsPlain(t, "first", x, p, first)
				wantAsPlain(t, "second behind "+named(first), x, p, second)
				wantAsPlain(t, "GO", x, p, sent(api.OptGo, infoRequest("root", 3)...))
			}
		}
	}
}

// R1: bytes of all kinds as Data: nothing panics, and all is as the plain reading has it.
func TestThrownBytes(t *testing.T) {
	d := dice(11)
	for run := range 4000 {
		x, p := chunked(t, pair()), newPlain(pair(), 512)
		p.setFlags(3)
		p.option(sent(api.OptStructured))
		for range 8 {
			data := make([]byte, d.below(40))
			for i := range data {
				data[i] = pick(&d, 0, 0, 0, 0, 1, 2, byte(d.below(256)))
			}
			wantAsPlain(t, fmt.Sprint("run ", run), x, p, sent(pick(&d, codes()...), data...))
		}
	}
}
