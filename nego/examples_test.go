package nego_test

import (
	"testing"

	"spindle/api"
	"spindle/wire"
)

// asked is what INFO and GO ask, as wire packs it.
func asked(t *testing.T, name string, kinds ...uint16) []byte {
	t.Helper()
	b, e := wire.PackInfoRequest(api.InfoRequest{Name: name, Infos: kinds})
	wantErr(t, "PackInfoRequest", e, api.OK)
	return b
}

// queried is what the options of contexts ask, as wire packs it.
func queried(t *testing.T, name string, queries ...string) []byte {
	t.Helper()
	b, e := wire.PackMetaRequest(api.MetaRequest{Name: name, Queries: queries})
	wantErr(t, "PackMetaRequest", e, api.OK)
	return b
}

// The chapter's first example.
func TestExampleList(t *testing.T) {
	a := api.OptionReply{Kind: api.RepServer, Data: []byte{0, 0, 0, 1, 0x61}}
	b := api.OptionReply{Kind: api.RepServer, Data: []byte{0, 0, 0, 1, 0x62}}
	wantAnswer(t, "LIST", talk(t, two(), 3), api.Option{Code: api.OptList}, on, a, b, ack)
}

// The second one.
func TestExampleInfo(t *testing.T) {
	x := talk(t, two(), 3)
	wantRefused(t, "without InfoBlock", x, api.Option{Code: api.OptInfo, Data: asked(t, "b")}, api.RepBlockSize)
	export := lay(uint16(api.InfoExport), uint64(4096), uint16(api.TxHas|api.TxReadOnly|api.TxFlush|api.TxFua|api.TxMulti|api.TxCache))
	block := lay(uint16(api.InfoBlock), uint32(512), uint32(512), uint32(512))
	desc := lay(uint16(api.InfoDesc), "two")
	wantAnswer(t, "with it", x, api.Option{Code: api.OptInfo, Data: asked(t, "b", api.InfoBlock, api.InfoDesc, api.InfoBlock, 77)}, on,
		api.OptionReply{Kind: api.RepInfo, Data: export}, api.OptionReply{Kind: api.RepInfo, Data: block}, api.OptionReply{Kind: api.RepInfo, Data: desc}, ack)
}

// The third one.
func TestExampleGo(t *testing.T) {
	x := talk(t, two(), 3)
	wantAnswer(t, "GO", x, api.Option{Code: api.OptGo, Data: asked(t, "")}, start, infoOf(api.InfoExport, two()[0], plainFlags, 512), ack)
	wantSession(t, "GO", x, api.Session{Index: 0}, true)
	wantNoAnswer(t, "behind GO", x, api.Option{Code: api.OptList}, api.ErrOver)
}

// The fourth one.
func TestExampleContexts(t *testing.T) {
	for _, name := range []string{"a", "b"} {
		x := talk(t, two(), 3)
		data := queried(t, "a", "base:allocation", "x")
		wantRefused(t, "ahead of chunks", x, api.Option{Code: api.OptSetMeta, Data: data}, api.RepInvalid)
		wantAcked(t, "chunks", x, api.Option{Code: api.OptStructured})
		wantAnswer(t, "behind them", x, api.Option{Code: api.OptSetMeta, Data: data}, on, api.OptionReply{Kind: api.RepMeta, Data: append([]byte{0, 0, 0, 1}, "base:allocation"...)}, ack)
		x.Option(api.Option{Code: api.OptGo, Data: asked(t, name, api.InfoBlock)})
		wanted := api.Session{Structured: true, Contexts: []uint32{1}}
		if name == "b" {
			wanted = api.Session{Index: 1, Structured: true}
		}
		wantSession(t, "GO of "+name, x, wanted, true)
	}
}

// The fifth one.
func TestExampleNames(t *testing.T) {
	x := talk(t, two(), 3)
	wantRefused(t, "77", x, api.Option{Code: 77}, api.RepUnsup)
	wantAnswer(t, "EXPORT_NAME", x, api.Option{Code: api.OptExportName, Data: []byte("none")}, end)
	x = talk(t, two(), 1)
	step := api.NegoStep{Kind: api.NegoStart, Old: true, Zeroes: true, Export: api.ExportReply{Size: 4096, Flags: 1 + 2 + 4 + 8 + 256 + 1024}}
	wantAnswer(t, "EXPORT_NAME", x, api.Option{Code: api.OptExportName, Data: []byte("b")}, step)
}

// The sixth one.
func TestExampleFlags(t *testing.T) {
	x := fresh(t, two())
	wantErr(t, "Flags(4)", x.Flags(4), api.ErrFlags)
	wantNoAnswer(t, "behind Flags(4)", x, api.Option{Code: api.OptList}, api.ErrOver)
	wantAnswer(t, "an old client", talk(t, two(), 0), api.Option{Code: api.OptList}, end)
}
