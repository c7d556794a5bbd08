package nego_test

import (
	"fmt"
	"testing"

	"spindle/api"
)

// P10.3: the greeting is the same one, wherever the talk stands.
func TestGreeting(t *testing.T) {
	wanted := api.Greeting{Flags: 3}
	x := fresh(t, two())
	want(t, "a new talk", x.Greeting(), wanted)
	want(t, "again", x.Greeting(), wanted)
	x.Flags(0)
	want(t, "behind flags", x.Greeting(), wanted)
	x.Option(sent(api.OptExportName))
	want(t, "behind the beginning", x.Greeting(), wanted)
	x = fresh(t, two())
	x.Flags(4)
	want(t, "behind wrong flags", x.Greeting(), wanted)
	x = talk(t, mixed(), 3)
	x.Option(sent(api.OptAbort))
	want(t, "behind the end", x.Greeting(), wanted)
}

// P10.4: the four that may be; then options are awaited, and no flags.
func TestFlags(t *testing.T) {
	for f := range uint32(4) {
		for _, again := range []uint32{0, 1, 2, 3, 4, max32} {
			what := fmt.Sprintf("Flags(%d), Flags(%d)", f, again)
			x := fresh(t, two())
			wantErr(t, what, x.Flags(f), api.OK)
			wantErr(t, what, x.Flags(again), api.ErrOver)
			wantSession(t, what, x, api.Session{}, false)
			step := api.NegoStep{Kind: api.NegoStart, Old: true, Zeroes: f&2 == 0, Export: api.ExportReply{Size: 1024, Flags: plainFlags}}
			wantAnswer(t, what, x, sent(api.OptExportName, 'a'), step)
			wantOver(t, what, x)
		}
	}
}

// plainFlags are those of an export that is nothing special: TxHas, TxFlush, TxFua, TxTrim, TxZeroes, TxMulti, TxCache, TxFast.
const plainFlags = 1 + 4 + 8 + 32 + 64 + 256 + 1024 + 2048

// P10.4: flags that come a second time do not change who the client is.
func TestFlagsAgain(t *testing.T) {
	x := talk(t, two(), 0)
	wantErr(t, "Flags(3) behind Flags(0)", x.Flags(3), api.ErrOver)
	wantAnswer(t, "still an old client", x, sent(api.OptList), end)
	for _, again := range []uint32{0, 4, max32} {
		x = talk(t, two(), 3)
		wantErr(t, "Flags behind Flags(3)", x.Flags(again), api.ErrOver)
		wantAnswer(t, "still not an old one, and not over", x, sent(api.OptList), on, server("a"), server("b"), ack)
	}
}

// P10.4: every other bit; the talk is over then.
func TestWrongFlags(t *testing.T) {
	for bit := 2; bit < 32; bit++ {
		for low := range uint32(4) {
			f := 1<<bit | low
			x := fresh(t, two())
			what := fmt.Sprintf("Flags(%#x)", f)
			wantErr(t, what, x.Flags(f), api.ErrFlags)
			wantSession(t, what, x, api.Session{}, false)
			wantOver(t, what, x)
		}
	}
	x := fresh(t, two())
	wantErr(t, "all bits", x.Flags(max32), api.ErrFlags)
	wantOver(t, "all bits", x)
}

// P10.5: an option ahead of any flags is refused, and changes nothing.
func TestOptionAheadOfFlags(t *testing.T) {
	x := fresh(t, two())
	for range 2 {
		for _, code := range every() {
			wantNoAnswer(t, "ahead of flags", x, proper(code), api.ErrOver)
			wantNoAnswer(t, "ahead of flags", x, api.Option{Code: code, Long: true}, api.ErrOver)
		}
	}
	wantSession(t, "ahead of flags", x, api.Session{}, false)
	wantErr(t, "Flags", x.Flags(3), api.OK)
	wantSession(t, "behind flags", x, api.Session{}, false)
	wantAnswer(t, "behind flags", x, sent(api.OptList), on, server("a"), server("b"), ack)
}
