package nego_test

import (
	"fmt"
	"testing"

	"spindle/api"
	"spindle/nego"
)

// beginnings are the two ways in which an export is chosen.
func beginnings(name string) []api.Option {
	return []api.Option{sent(api.OptGo, infoRequest(name, api.InfoBlock)...), sent(api.OptExportName, []byte(name)...)}
}

// wantBegun lets a talk that make gives begin with an export, in both ways, and looks at the session.
func wantBegun(t *testing.T, what string, make func() *nego.Talk, name string, wanted api.Session) {
	t.Helper()
	for _, o := range beginnings(name) {
		x := make()
		ahead := x.Session()
		if ahead.Index != 0 || len(ahead.Contexts) != 0 || ahead.Structured != wanted.Structured || ahead.Extended != wanted.Extended || x.Started() {
			t.Errorf("%s, ahead of %s: session %+v, Started %v", what, named(o), ahead, x.Started())
		}
		_, s, e := x.Option(o)
		wantErr(t, what+", "+named(o), e, api.OK)
		want(t, what+", "+named(o), s.Kind, api.NegoStart)
		want(t, what+", "+named(o)+": Started", x.Started(), true)
		for range 2 {
			if got := x.Session(); !same(got, wanted) {
				t.Errorf("%s, behind %s: session %+v, want %+v", what, named(o), got, wanted)
			}
		}
	}
}

// haggled gives what makes a talk that has taken these options, none of which may end it.
func haggled(t *testing.T, exports []api.Export, options ...api.Option) func() *nego.Talk {
	return func() *nego.Talk {
		x := talk(t, exports, 1)
		for _, o := range options {
			if _, s, e := x.Option(o); s != on || e != api.OK {
				t.Fatalf("%s: %v, error %d", named(o), s, e)
			}
		}
		return x
	}
}

// P10.11: the export's number, by each of its names.
func TestIndex(t *testing.T) {
	for _, exports := range [][]api.Export{two(), mixed(), full(), nested()} {
		for i, e := range exports {
			wantBegun(t, e.Name, haggled(t, exports), e.Name, api.Session{Index: i})
		}
		wantBegun(t, "the empty name", haggled(t, exports), "", api.Session{})
	}
}

// P10.11: what was agreed upon.
func TestAgreed(t *testing.T) {
	chunks, wide := sent(api.OptStructured), sent(api.OptExtended)
	for _, l := range [][]api.Option{{chunks}, {chunks, chunks}, {chunks, sent(api.OptStructured, 1)}, {chunks, sent(api.OptExtended, 1), sent(77)}} {
		wantBegun(t, "chunks", haggled(t, mixed(), l...), "r", api.Session{Index: 3, Structured: true})
	}
	for _, l := range [][]api.Option{{wide}, {wide, wide}, {chunks, wide}, {wide, chunks}, {wide, sent(api.OptExtended, 1)}, {wide, sent(api.OptStructured, 1)}} {
		wantBegun(t, "extended headers", haggled(t, mixed(), l...), "r", api.Session{Index: 3, Structured: true, Extended: true})
	}
	for _, l := range [][]api.Option{{sent(api.OptStructured, 1)}, {sent(api.OptExtended, 1)}, {{Code: api.OptStructured, Long: true}}, {{Code: api.OptExtended, Long: true}}} {
		wantBegun(t, "nothing", haggled(t, mixed(), l...), "r", api.Session{Index: 3})
	}
}

func set(name string, queries ...string) api.Option {
	return sent(api.OptSetMeta, metaRequest(name, queries...)...)
}

// P10.10, P10.11: the contexts that were chosen last, if of this export.
func TestChosen(t *testing.T) {
	const base, unsaved, dirty = "base:allocation", "spindle:unsaved", "spindle:dirty"
	rows := []struct {
		sets    []api.Option
		root, r []uint32
	}{
		{sets: nil},
		{sets: []api.Option{set("root", base)}, root: []uint32{1}},
		{sets: []api.Option{set("", dirty, base)}, root: []uint32{1, 3}},
		{sets: []api.Option{set("r", unsaved, base, dirty)}, r: []uint32{1, 2}},
		{sets: []api.Option{set("r", base), set("r", unsaved)}, r: []uint32{2}},
		{sets: []api.Option{set("r", base, unsaved), set("r", base)}, r: []uint32{1}},
		{sets: []api.Option{set("r", base), set("root", dirty)}, root: []uint32{3}},
		{sets: []api.Option{set("root", base), set("r", unsaved), set("root", unsaved)}, root: []uint32{2}},
		{sets: []api.Option{set("r", base), set("r")}},
		{sets: []api.Option{set("r", base), set("r", "base:")}},
		{sets: []api.Option{set("r", base), set("root")}},
		{sets: []api.Option{set("r", base), set("root", "x")}},
		{sets: []api.Option{set("r", base), set("r", dirty)}},
		{sets: []api.Option{set("r", base), set("nobody", base)}},
		{sets: []api.Option{set("r", base), set("nobody", base), set("r", unsaved)}, r: []uint32{2}},
		{sets: []api.Option{set("r", base), set("root", make([]string, 17)...)}},
		{sets: []api.Option{set("root", base), sent(api.OptSetMeta)}},
		{sets: []api.Option{set("root", base), {Code: api.OptSetMeta, Long: true, Len: 66}}},
		{sets: []api.Option{set("r", base), {Code: api.OptSetMeta, Long: true, Len: 66, Data: metaRequest("r", base)}}},
	}
	for i, row := range rows {
		what := fmt.Sprint("row ", i)
		options := append([]api.Option{sent(api.OptStructured)}, row.sets...)
		wantBegun(t, what, haggled(t, mixed(), options...), "root", api.Session{Structured: true, Contexts: row.root})
		wantBegun(t, what, haggled(t, mixed(), options...), "", api.Session{Structured: true, Contexts: row.root})
		wantBegun(t, what, haggled(t, mixed(), options...), "r", api.Session{Index: 3, Structured: true, Contexts: row.r})
		wantBegun(t, what, haggled(t, mixed(), options...), "ro", api.Session{Index: 2, Structured: true})
	}
}

// P10.10, P10.13: no other option takes away what was chosen, or chooses, refused or not.
func TestChosenStays(t *testing.T) {
	others := []api.Option{
		sent(api.OptList), sent(api.OptList, 0), sent(api.OptStartTLS), sent(api.OptStartTLS, 0), sent(77), sent(max32), {Code: 77, Long: true},
		sent(api.OptInfo, infoRequest("r", 3)...), sent(api.OptInfo, infoRequest("root", 3)...), sent(api.OptInfo, infoRequest("nobody")...), sent(api.OptInfo), {Code: api.OptInfo, Long: true},
		sent(api.OptGo, infoRequest("root")...), sent(api.OptGo, infoRequest("nobody")...), sent(api.OptGo), {Code: api.OptGo, Long: true}, {Code: api.OptAbort, Long: true},
		sent(api.OptStructured), sent(api.OptStructured, 0), {Code: api.OptStructured, Long: true}, sent(api.OptExtended, 0),
		sent(api.OptListMeta, metaRequest("r")...), sent(api.OptListMeta, metaRequest("root", "spindle:")...), sent(api.OptListMeta, metaRequest("nobody")...), sent(api.OptListMeta), {Code: api.OptListMeta, Long: true},
		sent(api.OptListMeta, metaRequest("r", make([]string, 17)...)...), sent(api.OptListMeta, metaRequest("ro", "spindle:dirty")...),
	}
	wanted := api.Session{Index: 3, Structured: true, Contexts: []uint32{2}}
	for _, o := range others {
		wantBegun(t, named(o), haggled(t, mixed(), sent(api.OptStructured), set("r", "spindle:unsaved"), o), "r", wanted)
		wantBegun(t, named(o), haggled(t, mixed(), sent(api.OptStructured), o), "r", api.Session{Index: 3, Structured: true})
	}
	all := append([]api.Option{sent(api.OptStructured), set("r", "spindle:unsaved")}, others...)
	wantBegun(t, "all of them", haggled(t, mixed(), all...), "r", wanted)
	wanted.Extended = true
	wantBegun(t, "extended headers", haggled(t, mixed(), append(all, sent(api.OptExtended))...), "r", wanted)
}

// P10.12: a talk that ends has begun nothing, and tells what had been agreed upon.
func TestSessionOfTheEnd(t *testing.T) {
	x := chunked(t, pair())
	x.Option(set("tracked", "spindle:dirty"))
	wantSession(t, "ahead of the end", x, api.Session{Structured: true}, false)
	wantAnswer(t, "EXPORT_NAME of none", x, sent(api.OptExportName, 'x'), end)
	wantSession(t, "behind it", x, api.Session{Structured: true}, false)
	wantOver(t, "behind it", x)
	x = talk(t, pair(), 3)
	x.Option(sent(api.OptExtended))
	wantAnswer(t, "ABORT", x, sent(api.OptAbort), end, ack)
	wantSession(t, "behind it", x, api.Session{Structured: true, Extended: true}, false)
}
