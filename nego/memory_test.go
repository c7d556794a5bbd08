package nego_test

import (
	"bytes"
	"slices"
	"testing"

	"spindle/api"
	"spindle/nego"
)

// R4: the exports that are handed in are not changed, with the room behind them, and not kept.
func TestExportsMemory(t *testing.T) {
	exports := roomy(mixed(), export("spare", 9))
	before := slices.Clone(whole(exports))
	want(t, "Right", nego.Right(exports), api.OK)
	x, _ := nego.New(exports, limits())
	nego.New(exports, api.Limits{})
	x.Flags(3)
	spoilt := api.Export{Name: "spoilt", Sectors: 1, Min: 7, Tracked: true}
	ask := func(what string, p *plain) {
		wantAsPlain(t, what, x, p, sent(api.OptList))
		wantAsPlain(t, what, x, p, sent(api.OptStructured))
		for _, e := range mixed() {
			wantAsPlain(t, what, x, p, sent(api.OptInfo, infoRequest(e.Name, 1, 2, 3)...))
			wantAsPlain(t, what, x, p, sent(api.OptListMeta, metaRequest(e.Name)...))
		}
	}
	p := newPlain(mixed(), 512)
	p.setFlags(3)
	ask("as handed in", p)
	if !slices.Equal(whole(exports), before) {
		t.Error("the exports, or the room behind them, have changed")
	}
	spoil(exports, spoilt)
	ask("spoilt by whoever handed them in", p)
	wantAsPlain(t, "spoilt", x, p, set("root", "spindle:dirty", "base:allocation"))
	wantAsPlain(t, "spoilt", x, p, sent(api.OptGo, infoRequest("root", 3)...))
}

// R4: an option's Data are not changed, with the room behind them, and not kept; what is answered is nobody else's.
func TestOptionMemory(t *testing.T) {
	x, y := chunked(t, mixed()), chunked(t, mixed())
	var before, kept [][]api.OptionReply
	for _, o := range []api.Option{
		sent(api.OptList), sent(77, 1, 2), sent(api.OptList, 1), sent(api.OptInfo, infoRequest("root", 3, 2, 1)...), sent(api.OptInfo, infoRequest("r")...),
		sent(api.OptListMeta, metaRequest("root")...), set("root", "spindle:dirty", "base:allocation"), sent(api.OptListMeta, metaRequest("ro", "spindle:")...),
		sent(api.OptGo, infoRequest("nobody")...), sent(api.OptGo, infoRequest("root", 3, 2)...),
	} {
		o.Data = roomy(o.Data, 0xaa)
		was := bytes.Clone(whole(o.Data))
		first, _, _ := x.Option(o)
		second, _, _ := y.Option(o)
		want(t, named(o)+": the Data are as they were", bytes.Equal(whole(o.Data), was), true)
		kept = append(kept, second)
		before = append(before, copied(second))
		spoil(o.Data, 0xee)
		spoilReplies(first)
	}
	for i := range kept {
		if !same(kept[i], before[i]) {
			t.Errorf("answer %d is now %s, was %s", i, short(kept[i]), short(before[i]))
		}
	}
	wanted := api.Session{Structured: true, Contexts: []uint32{1, 3}}
	wantSession(t, "whose answers were spoilt", x, wanted, true)
	wantSession(t, "the other", y, wanted, true)
}

// copied is an answer anew.
func copied(l []api.OptionReply) []api.OptionReply {
	l = slices.Clone(l)
	for i := range l {
		l[i].Data = bytes.Clone(l[i].Data)
	}
	return l
}

func spoilReplies(l []api.OptionReply) {
	for _, r := range l {
		spoil(r.Data, 0xdd)
	}
	spoil(l, api.OptionReply{Option: 99, Kind: 99})
}

// R4: no two lists of one answer share memory, spare room included; nor do those of two answers.
func TestRepliesAreApart(t *testing.T) {
	x := chunked(t, full())
	for _, o := range []api.Option{
		sent(api.OptList), sent(api.OptInfo, infoRequest("", 3, 2, 1)...), sent(api.OptListMeta, metaRequest("")...), set("", contextNames()...),
		sent(77), sent(api.OptStructured), sent(api.OptGo, infoRequest("", 3, 2, 1)...),
	} {
		l, _, _ := x.Option(o)
		was := copied(l)
		for i := range l {
			rest := slices.Delete(copied(l), i, i+1)
			spoil(l[i].Data, byte(0xe0+i))
			_ = append(l[i].Data, 1, 2, 3)
			if got := slices.Delete(slices.Clone(l), i, i+1); !same(got, rest) {
				t.Errorf("%s: with reply %d spoilt the others are %s", named(o), i, short(got))
			}
			copy(l[i].Data, was[i].Data)
		}
	}
}

// R4: the contexts of a session are told anew each time.
func TestSessionMemory(t *testing.T) {
	x := chunked(t, pair())
	x.Option(set("tracked", contextNames()...))
	x.Option(sent(api.OptGo, infoRequest("tracked")...))
	wanted := api.Session{Structured: true, Contexts: []uint32{1, 2, 3}}
	first, second := x.Session(), x.Session()
	spoil(first.Contexts, 77)
	_ = append(first.Contexts[:1], 8, 9)
	want(t, "another answer", same(second, wanted), true)
	wantSession(t, "behind it", x, wanted, true)
	spoil(second.Contexts, 78)
	wantSession(t, "behind it", x, wanted, true)
}

// R4: what Export answers is new memory.
func TestExportMemory(t *testing.T) {
	first := nego.Export(mixed()[0], limits(), true)
	second := nego.Export(mixed()[0], limits(), true)
	spoil(first, api.Info{Kind: 77, Text: "spoilt"})
	wantInfos(t, mixed()[0], limits(), true, 8192)
	want(t, "another answer", same(second, nego.Export(mixed()[0], limits(), true)), true)
}
