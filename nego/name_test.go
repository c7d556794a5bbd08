package nego_test

import (
	"fmt"
	"strings"
	"testing"

	"spindle/api"
)

// nested are exports whose names are beginnings of one another, or nearly the same.
func nested() []api.Export {
	var out []api.Export
	for i, name := range []string{"abc", "a", "ab", "A", "é", "e\u0301", " ", "a ", strings.Repeat("n", 256), strings.Repeat("n", 255)} {
		out = append(out, export(name, i+1))
	}
	return out
}

// nobody are names of none of these.
func nobody() []string {
	return []string{"b", "bc", "abcd", "abC", " a", "aa", "e", "\u0301", "  ", "\t", "\u00a0", strings.Repeat("n", 254), strings.Repeat("n", 257), strings.Repeat("n", 4096)}
}

// oldStart is what follows EXPORT_NAME that found its export.
func oldStart(e api.Export, structured, zeroes bool) api.NegoStep {
	return api.NegoStep{Kind: api.NegoStart, Old: true, Zeroes: zeroes, Export: api.ExportReply{Size: uint64(e.Sectors) * 512, Flags: flagsOf(e, structured)}}
}

// P10.7: the export begins at once, whatever it is and whoever the client is.
func TestExportName(t *testing.T) {
	for f := range uint32(4) {
		for _, exports := range [][]api.Export{mixed(), nested(), full()} {
			for i, e := range exports {
				x := talk(t, exports, f)
				wantAnswer(t, fmt.Sprint("flags ", f), x, sent(api.OptExportName, []byte(e.Name)...), oldStart(e, false, f < 2))
				wantSession(t, e.Name, x, api.Session{Index: i}, true)
				wantOver(t, e.Name, x)
			}
		}
	}
}

// P10.7: with what was agreed upon.
func TestExportNameBehindChunks(t *testing.T) {
	for _, code := range []uint32{api.OptStructured, api.OptExtended} {
		for i, e := range mixed() {
			x := talk(t, mixed(), 1)
			wantAcked(t, e.Name, x, sent(code))
			wantAnswer(t, e.Name, x, sent(api.OptExportName, []byte(e.Name)...), oldStart(e, true, true))
			wantSession(t, e.Name, x, api.Session{Index: i, Structured: true, Extended: code == api.OptExtended}, true)
		}
	}
}

// P10.7: a name of no export, and one that is too long, ends the talk without an answer.
func TestExportNameOfNone(t *testing.T) {
	for f := range uint32(4) {
		for _, name := range append(nobody(), "\x00", "a\x00", "\x00a", "\xff", "a\xff", strings.Repeat("x", 65536)) {
			x := talk(t, nested(), f)
			wantAnswer(t, fmt.Sprint("flags ", f), x, sent(api.OptExportName, []byte(name)...), end)
			wantSession(t, name, x, api.Session{}, false)
		}
		for _, data := range []string{"", "a", "b"} {
			x := talk(t, nested(), f)
			wantAnswer(t, fmt.Sprint("flags ", f), x, api.Option{Code: api.OptExportName, Len: 99, Long: true, Data: []byte(data)}, end)
			wantSession(t, "a long one", x, api.Session{}, false)
			wantOver(t, "a long one", x)
		}
	}
}

// P10.9: the empty name stands for the first export, wherever a name stands.
func TestEmptyName(t *testing.T) {
	for _, exports := range [][]api.Export{{export("z", 3)}, nested(), full()} {
		x := chunked(t, exports)
		first := infoOf(api.InfoExport, exports[0], flagsOf(exports[0], true), 512)
		name := infoOf(api.InfoName, exports[0], 0, 0)
		wantAnswer(t, "INFO", x, sent(api.OptInfo, infoRequest("", 1)...), on, first, name, ack)
		wantAnswer(t, "LIST_META_CONTEXT", x, sent(api.OptListMeta, metaRequest("", "base:")...), on, meta(0, "base:allocation"), ack)
		wantAnswer(t, "SET_META_CONTEXT", x, sent(api.OptSetMeta, metaRequest("", "base:allocation")...), on, meta(1, "base:allocation"), ack)
		wantAnswer(t, "GO", x, sent(api.OptGo, infoRequest("")...), start, first, ack)
		wantSession(t, "GO", x, api.Session{Structured: true, Contexts: []uint32{1}}, true)
		for _, empty := range []api.Option{{Code: api.OptExportName}, {Code: api.OptExportName, Data: []byte{}}} {
			x = talk(t, exports, 3)
			wantAnswer(t, "EXPORT_NAME", x, empty, oldStart(exports[0], false, false))
			wantSession(t, "EXPORT_NAME", x, api.Session{}, true)
		}
	}
}

// P10.9: every other name stands for the export that has just its bytes, wherever it stands.
func TestNames(t *testing.T) {
	x := chunked(t, nested())
	for i, e := range nested() {
		info := []api.OptionReply{infoOf(api.InfoExport, e, flagsOf(e, true), 512), infoOf(api.InfoName, e, 0, 0), ack}
		wantAnswer(t, "INFO", x, sent(api.OptInfo, infoRequest(e.Name, 1)...), on, info...)
		wantAnswer(t, "LIST_META_CONTEXT", x, sent(api.OptListMeta, metaRequest(e.Name, "base:")...), on, meta(0, "base:allocation"), ack)
		wantAnswer(t, "SET_META_CONTEXT", x, sent(api.OptSetMeta, metaRequest(e.Name, "spindle:unsaved")...), on, meta(2, "spindle:unsaved"), ack)
		y := chunked(t, nested())
		wantAnswer(t, "GO", y, sent(api.OptGo, infoRequest(e.Name, 1)...), start, info...)
		wantSession(t, "GO", y, api.Session{Index: i, Structured: true}, true)
	}
	for _, name := range nobody() {
		wantRefused(t, "INFO", x, sent(api.OptInfo, infoRequest(name)...), api.RepUnknown)
		wantRefused(t, "GO", x, sent(api.OptGo, infoRequest(name, 0, 1, 2, 3)...), api.RepUnknown)
		wantRefused(t, "LIST_META_CONTEXT", x, sent(api.OptListMeta, metaRequest(name)...), api.RepUnknown)
		wantRefused(t, "SET_META_CONTEXT", x, sent(api.OptSetMeta, metaRequest(name, "base:allocation")...), api.RepUnknown)
	}
	wantSession(t, "behind them", x, api.Session{Structured: true}, false)
}
