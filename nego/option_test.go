package nego_test

import (
	"fmt"
	"slices"
	"testing"

	"spindle/api"
)

// P10.5: a code that is in no table.
func TestStrangeCodes(t *testing.T) {
	x := talk(t, two(), 3)
	for _, code := range strange() {
		for _, data := range [][]byte{nil, {0}, []byte("a"), infoRequest("a"), metaRequest("a")} {
			wantRefused(t, "a strange code", x, sent(code, data...), api.RepUnsup)
		}
		wantRefused(t, "a strange code, Long", x, api.Option{Code: code, Len: 9999, Long: true}, api.RepTooBig)
	}
	for code := uint32(12); code < 3000; code++ {
		wantRefused(t, "a strange code", x, sent(code), api.RepUnsup)
	}
	wantSession(t, "behind them", x, api.Session{}, false)
	wantAcked(t, "behind them", x, sent(api.OptStructured))
}

// P10.5: options that are too long, of every code but EXPORT_NAME; they do nothing, whatever Data they have.
func TestLong(t *testing.T) {
	x := talk(t, two(), 3)
	for _, code := range every() {
		if code == api.OptExportName {
			continue
		}
		for _, data := range [][]byte{nil, proper(code).Data, {0}, []byte("x")} {
			for _, n := range []uint32{0, 65, 65536, max32} {
				wantRefused(t, "a long one", x, api.Option{Code: code, Len: n, Long: true, Data: data}, api.RepTooBig)
				wantSession(t, "behind a long one", x, api.Session{}, false)
			}
		}
	}
	wantAcked(t, "behind them", x, sent(api.OptExtended))
	wantRefused(t, "behind extended headers", x, api.Option{Code: api.OptStructured, Long: true}, api.RepTooBig)
	wantRefused(t, "behind extended headers", x, api.Option{Code: api.OptListMeta, Long: true}, api.RepTooBig)
}

// P10.5: an old client may ask for EXPORT_NAME alone: all else ends the talk, without an answer.
func TestOldClient(t *testing.T) {
	for _, f := range []uint32{0, api.HandNoZeroes} {
		for _, code := range every() {
			if code == api.OptExportName {
				continue
			}
			for _, o := range []api.Option{proper(code), sent(code, 'x'), {Code: code, Long: true, Len: 70000}} {
				what := fmt.Sprintf("an old client, flags %d", f)
				x := talk(t, mixed(), f)
				wantAnswer(t, what, x, o, end)
				wantSession(t, what, x, api.Session{}, false)
				wantOver(t, what, x)
			}
		}
	}
}

// P10.5: flags of 1 and 3 are no old client's.
func TestNotOldClient(t *testing.T) {
	for _, f := range []uint32{1, 3} {
		x := talk(t, two(), f)
		wantAnswer(t, "LIST", x, sent(api.OptList), on, server("a"), server("b"), ack)
		wantRefused(t, "STARTTLS", x, sent(api.OptStartTLS), api.RepUnsup)
	}
}

// P10.5: ABORT is acknowledged and ends the talk, whatever its Data are.
func TestAbort(t *testing.T) {
	for _, data := range [][]byte{nil, {0}, []byte("bye"), make([]byte, 65536)} {
		x := talk(t, two(), 3)
		wantAcked(t, "chunks", x, sent(api.OptStructured))
		wantAnswer(t, "ABORT", x, sent(api.OptAbort, data...), end, ack)
		wantSession(t, "behind ABORT", x, api.Session{Structured: true}, false)
		wantOver(t, "behind ABORT", x)
	}
}

// P10.5: LIST tells all exports in their order; with Data it tells none.
func TestList(t *testing.T) {
	for i, exports := range rightExports() {
		x := talk(t, exports, 3)
		var wanted []api.OptionReply
		for _, e := range exports {
			wanted = append(wanted, server(e.Name))
		}
		for range 2 {
			wantAnswer(t, fmt.Sprint("exports ", i), x, sent(api.OptList), on, append(wanted, ack)...)
		}
	}
	x := talk(t, two(), 3)
	for _, data := range [][]byte{{0}, {'a'}, counted("a"), make([]byte, 65536)} {
		wantRefused(t, "LIST with Data", x, sent(api.OptList, data...), api.RepInvalid)
	}
	wantSession(t, "behind LIST", x, api.Session{}, false)
}

// P10.5: LIST names exports that are private, tracked or read-only as all others, and is not changed by what was agreed upon.
func TestListBehindOthers(t *testing.T) {
	x := talk(t, mixed(), 3)
	for _, code := range []uint32{77, api.OptStructured, api.OptExtended, api.OptSetMeta, api.OptInfo} {
		x.Option(proper(code))
		wantAnswer(t, fmt.Sprint("behind ", code), x, sent(api.OptList), on, server("root"), server("für sich"), server("ro"), server("r"), server("none"), ack)
	}
}

func TestStartTLS(t *testing.T) {
	x := talk(t, two(), 3)
	for range 2 {
		wantRefused(t, "STARTTLS", x, sent(api.OptStartTLS), api.RepUnsup)
		wantRefused(t, "STARTTLS with Data", x, sent(api.OptStartTLS, 0), api.RepInvalid)
		wantRefused(t, "STARTTLS with Data", x, sent(api.OptStartTLS, []byte("tls")...), api.RepInvalid)
	}
	wantSession(t, "behind STARTTLS", x, api.Session{}, false)
}

// P10.5: chunks are agreed upon, once or again, but not with Data.
func TestStructured(t *testing.T) {
	x := talk(t, two(), 3)
	wantRefused(t, "with Data", x, sent(api.OptStructured, 0), api.RepInvalid)
	wantSession(t, "with Data", x, api.Session{}, false)
	for range 3 {
		wantAcked(t, "without", x, sent(api.OptStructured))
		wantSession(t, "without", x, api.Session{Structured: true}, false)
		wantRefused(t, "with Data behind it", x, sent(api.OptStructured, 'x'), api.RepInvalid)
		wantSession(t, "with Data behind it", x, api.Session{Structured: true}, false)
	}
}

// P10.5: extended headers are agreed upon, with chunks or behind them; then no chunks can be asked for.
func TestExtended(t *testing.T) {
	both := api.Session{Structured: true, Extended: true}
	for _, chunks := range []bool{false, true} {
		x := talk(t, two(), 3)
		if chunks {
			wantAcked(t, "chunks", x, sent(api.OptStructured))
		}
		wantRefused(t, "with Data", x, sent(api.OptExtended, 0), api.RepInvalid)
		wantSession(t, "with Data", x, api.Session{Structured: chunks}, false)
		for range 3 {
			wantAcked(t, "without", x, sent(api.OptExtended))
			wantSession(t, "without", x, both, false)
			wantRefused(t, "with Data behind it", x, sent(api.OptExtended, []byte("xy")...), api.RepInvalid)
			wantRefused(t, "chunks behind it", x, sent(api.OptStructured), api.RepInvalid)
			wantRefused(t, "chunks behind it, with Data", x, sent(api.OptStructured, 1), api.RepInvalid)
			wantSession(t, "behind them", x, both, false)
		}
	}
}

// P10.5: Len is not looked at, and an empty list is as nil.
func TestLenIsNotLookedAt(t *testing.T) {
	for _, n := range []uint32{0, 1, 2, 64, 65, 65537, max32} {
		x := talk(t, two(), 3)
		for _, code := range []uint32{api.OptList, api.OptStartTLS, 77, api.OptStructured, api.OptExtended, api.OptInfo, api.OptListMeta, api.OptSetMeta} {
			o := proper(code)
			o.Data = append([]byte{}, o.Data...)
			o.Len = n
			l, s, e := x.Option(o)
			want(t, named(o)+": what follows", s, on)
			wantErr(t, named(o), e, api.OK)
			refused := l[0].Kind >= 1<<31
			want(t, named(o)+": refused", refused, code == api.OptStartTLS || code == 77)
		}
		wantRefused(t, "Data without Len", x, api.Option{Code: api.OptList, Len: n, Data: []byte("x")}, api.RepInvalid)
		step := api.NegoStep{Kind: api.NegoStart, Old: true, Export: api.ExportReply{Size: 1024, Flags: plainFlags + api.TxDF}}
		wantAnswer(t, "EXPORT_NAME", x, api.Option{Code: api.OptExportName, Len: n, Data: []byte("a")}, step)
	}
}

// P10.5: nothing that is refused ends the talk or agrees upon anything.
func TestRefusedChangesNothing(t *testing.T) {
	x := talk(t, two(), 3)
	refused := []api.Option{
		sent(api.OptList, 0), sent(api.OptStartTLS), sent(77), sent(api.OptStructured, 0), sent(api.OptExtended, 0), sent(api.OptInfo), sent(api.OptGo),
		sent(api.OptGo, infoRequest("b")...), sent(api.OptGo, infoRequest("c")...), proper(api.OptListMeta), proper(api.OptSetMeta), {Code: api.OptAbort, Long: true}, {Code: api.OptGo, Long: true},
	}
	for _, o := range slices.Concat(refused, refused) {
		l, s, e := x.Option(o)
		wantErr(t, named(o), e, api.OK)
		want(t, named(o)+": what follows", s, on)
		want(t, named(o)+": one reply", len(l), 1)
		want(t, named(o)+": refused", l[0].Kind >= 1<<31, true)
		wantSession(t, named(o), x, api.Session{}, false)
	}
	wantAnswer(t, "behind them", x, sent(api.OptGo, infoRequest("a")...), start, infoOf(api.InfoExport, two()[0], plainFlags, 512), ack)
}
