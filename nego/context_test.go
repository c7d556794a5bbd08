package nego_test

import (
	"fmt"
	"slices"
	"strings"
	"testing"

	"spindle/api"
)

// contextNames are the names by the ids.
func contextNames() []string {
	return []string{"", "base:allocation", "spindle:unsaved", "spindle:dirty"}
}

// pair is an export that is tracked and one that is not.
func pair() []api.Export {
	return []api.Export{with(export("tracked", 1), func(e *api.Export) { e.Tracked = true }), export("plain", 1)}
}

// metas are the replies to an option of contexts, with their ids or with 0.
func metas(listing bool, ids ...uint32) []api.OptionReply {
	var out []api.OptionReply
	for _, id := range ids {
		said := id
		if listing {
			said = 0
		}
		out = append(out, meta(said, contextNames()[id]))
	}
	return append(out, ack)
}

// contextQueries are queries and what they mean of the export that is tracked; of the other one 3 is not among them.
func contextQueries() []struct {
	queries   []string
	set, list []uint32
} {
	type ids = []uint32
	type texts = []string
	return []struct {
		queries   []string
		set, list []uint32
	}{
		{nil, nil, ids{1, 2, 3}},
		{texts{"base:allocation"}, ids{1}, ids{1}},
		{texts{"spindle:unsaved"}, ids{2}, ids{2}},
		{texts{"spindle:dirty"}, ids{3}, ids{3}},
		{texts{"spindle:dirty", "base:allocation", "spindle:unsaved"}, ids{1, 2, 3}, ids{1, 2, 3}},
		{texts{"spindle:dirty", "base:allocation"}, ids{1, 3}, ids{1, 3}},
		{texts{"spindle:unsaved", "spindle:unsaved", "spindle:unsaved"}, ids{2}, ids{2}},
		{texts{"base:allocation", "x", "base:allocation", "spindle:unsaved", "base:allocation"}, ids{1, 2}, ids{1, 2}},
		{texts{"base:"}, nil, ids{1}},
		{texts{"spindle:"}, nil, ids{2, 3}},
		{texts{"spindle:", "base:"}, nil, ids{1, 2, 3}},
		{texts{"base:", "base:", "base:allocation"}, ids{1}, ids{1}},
		{texts{"spindle:dirty", "spindle:"}, ids{3}, ids{2, 3}},
		{texts{"spindle:", "base:allocation", "spindle:unsaved"}, ids{1, 2}, ids{1, 2, 3}},
		{texts{""}, nil, nil},
		{texts{"", "base:allocation", ""}, ids{1}, ids{1}},
		{texts{"x"}, nil, nil},
		{texts{"base", "base:a", "base:allocatio", "base:allocation ", "base:allocation:", " base:allocation"}, nil, nil},
		{texts{"BASE:ALLOCATION", "Base:", "SPINDLE:", "allocation", ":", ":allocation", "unsaved"}, nil, nil},
		{texts{"spindle", "spindle:d", "spindle:unsaved\n", "spindle::", "spindl", "b", "s", "base::", "qemu:"}, nil, nil},
		{slices.Repeat(texts{"spindle:dirty"}, 16), ids{3}, ids{3}},
		{append(slices.Repeat(texts{"x"}, 15), "spindle:unsaved"), ids{2}, ids{2}},
		{texts{strings.Repeat("q", 4096), "base:allocation"}, ids{1}, ids{1}},
	}
}

// P10.10: what queries mean, told by rising ids, each once; what SET means is chosen.
func TestContexts(t *testing.T) {
	for _, chunks := range []uint32{api.OptStructured, api.OptExtended} {
		for at, e := range pair() {
			for _, q := range contextQueries() {
				set, list := q.set, q.list
				if !e.Tracked {
					isDirty := func(id uint32) bool { return id == api.ContextDirty }
					set, list = slices.DeleteFunc(slices.Clone(set), isDirty), slices.DeleteFunc(slices.Clone(list), isDirty)
				}
				x := talk(t, pair(), 3)
				wantAcked(t, "chunks", x, sent(chunks))
				data := metaRequest(e.Name, q.queries...)
				for range 2 {
					wantAnswer(t, e.Name, x, sent(api.OptListMeta, data...), on, metas(true, list...)...)
					wantAnswer(t, e.Name, x, sent(api.OptSetMeta, data...), on, metas(false, set...)...)
				}
				wantAnswer(t, e.Name, x, sent(api.OptListMeta, data...), on, metas(true, list...)...)
				x.Option(sent(api.OptGo, infoRequest(e.Name)...))
				wantSession(t, fmt.Sprintf("%s, chosen by %q", e.Name, q.queries), x, api.Session{Index: at, Structured: true, Extended: chunks == api.OptExtended, Contexts: set}, true)
			}
		}
	}
}

// P10.10: of every export, whatever it is.
func TestContextsOfExports(t *testing.T) {
	x := chunked(t, mixed())
	for _, e := range mixed() {
		ids := []uint32{1, 2}
		if e.Tracked {
			ids = append(ids, 3)
		}
		wantAnswer(t, e.Name, x, sent(api.OptListMeta, metaRequest(e.Name)...), on, metas(true, ids...)...)
		wantAnswer(t, e.Name, x, sent(api.OptSetMeta, metaRequest(e.Name, contextNames()...)...), on, metas(false, ids...)...)
	}
}

// P10.10: ahead of chunks that is refused, whatever the Data are; so it is behind a refused option of chunks.
func TestContextsAheadOfChunks(t *testing.T) {
	x := talk(t, pair(), 3)
	wantRefused(t, "chunks", x, sent(api.OptStructured, 0), api.RepInvalid)
	wantRefused(t, "extended headers", x, sent(api.OptExtended, 0), api.RepInvalid)
	for _, code := range []uint32{api.OptListMeta, api.OptSetMeta} {
		for _, data := range [][]byte{nil, {0}, metaRequest(""), metaRequest("plain", "base:allocation"), metaRequest("nobody"), metaRequest("plain", make([]string, 17)...)} {
			wantRefused(t, "ahead of chunks", x, sent(code, data...), api.RepInvalid)
		}
	}
	x.Option(sent(api.OptStructured))
	x.Option(sent(api.OptGo, infoRequest("plain")...))
	wantSession(t, "nothing was chosen", x, api.Session{Index: 1, Structured: true}, true)
}

// wrongMetas are Data that are no request of contexts, and why they are refused.
func wrongMetas() map[string]uint32 {
	out := map[string]uint32{}
	right := metaRequest("plain", "base:allocation", "x")
	for n := range right {
		out[string(right[:n])] = api.RepInvalid
	}
	for _, invalid := range [][]byte{
		append(right, 0), append(right, counted("x")...), metaRequest("\xff"), metaRequest("a\x00"), metaRequest(strings.Repeat("n", 4097)),
		metaRequest("plain", "\xff"), metaRequest("plain", "base:allocation\x00"), metaRequest("nobody", "\xff"), metaRequest("plain", "base:allocation", strings.Repeat("q", 4097)),
		lay(counted("plain"), uint32(1), uint32(max32), "x"), lay(uint32(max32), "plain", uint32(0)), infoRequest("plain"), metaRequest("\xff", make([]string, 17)...),
	} {
		out[string(invalid)] = api.RepInvalid
	}
	for _, name := range []string{"", "plain", "nobody"} {
		out[string(metaRequest(name, make([]string, 17)...))] = api.RepTooBig
		out[string(metaRequest(name, slices.Repeat([]string{"base:allocation"}, 100)...))] = api.RepTooBig
		out[string(lay(counted(name), uint32(17)))] = api.RepTooBig
		out[string(lay(counted(name), uint32(1<<16), "\xff"))] = api.RepTooBig
		out[string(lay(counted(name), uint32(max32)))] = api.RepTooBig
		out[string(append(metaRequest(name, make([]string, 17)...), 0))] = api.RepTooBig
	}
	out[string(metaRequest("nobody"))] = api.RepUnknown
	out[string(metaRequest("nobody", "base:allocation"))] = api.RepUnknown
	out[string(metaRequest("plain ", make([]string, 16)...))] = api.RepUnknown
	return out
}

// P10.10: Data that cannot be unpacked, ask too much, or name no export, in this order; a SET that is refused chooses none.
func TestContextsRefused(t *testing.T) {
	for data, kind := range wrongMetas() {
		x := chunked(t, pair())
		chosen := sent(api.OptSetMeta, metaRequest("plain", "base:allocation")...)
		wantAnswer(t, "SET", x, chosen, on, metas(false, 1)...)
		wantRefused(t, "LIST", x, sent(api.OptListMeta, []byte(data)...), kind)
		y := chunked(t, pair())
		wantAnswer(t, "SET", y, chosen, on, metas(false, 1)...)
		wantRefused(t, "SET behind it", y, sent(api.OptSetMeta, []byte(data)...), kind)
		x.Option(sent(api.OptGo, infoRequest("plain")...))
		wantSession(t, fmt.Sprintf("behind LIST of %q", data[:min(len(data), 60)]), x, api.Session{Index: 1, Structured: true, Contexts: []uint32{1}}, true)
		y.Option(sent(api.OptGo, infoRequest("plain")...))
		wantSession(t, fmt.Sprintf("behind SET of %q", data[:min(len(data), 60)]), y, api.Session{Index: 1, Structured: true}, true)
	}
}
