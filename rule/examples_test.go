package rule_test

import (
	"testing"

	"spindle/api"
)

// P11.2: the chapter's examples.
func TestExamples(t *testing.T) {
	for _, x := range []struct {
		what string
		s    api.Session
		only bool
		q    api.Request
		code uint32
	}{
		{"a read", chunks, false, api.Request{Type: api.CmdRead, Length: 1024}, 0},
		{"above the payload", chunks, false, api.Request{Type: api.CmdRead, Length: 1536}, 22},
		{"a read at the end", chunks, false, api.Request{Type: api.CmdRead, Offset: 4096, Length: 512}, 22},
		{"a write over the end", chunks, false, api.Request{Type: api.CmdWrite, Offset: 3584, Length: 1024}, 28},
		{"zeros far behind it", chunks, false, api.Request{Type: api.CmdZeroes, Offset: 18446744073709551104, Length: 512}, 28},
		{"a trim over the end", chunks, false, api.Request{Type: api.CmdTrim, Offset: 3584, Length: 1024}, 22},
		{"a trim on no block", chunks, false, api.Request{Type: api.CmdTrim, Offset: 1, Length: 512}, 22},
		{"both of these", chunks, false, api.Request{Type: api.CmdTrim, Offset: 4095, Length: 512}, 22},
		{"a write of no bytes, of a ReadOnly one", chunks, true, api.Request{Type: api.CmdWrite}, 1},
		{"a status without contexts", chunks, false, api.Request{Type: api.CmdStatus, Length: 512}, 22},
		{"a flush of a byte", chunks, false, api.Request{Type: api.CmdFlush, Length: 1}, 22},
		{"a flush with FlagFua", chunks, false, api.Request{Type: api.CmdFlush, Flags: api.FlagFua}, 0},
		{"a write with FlagDF", chunks, false, api.Request{Type: api.CmdWrite, Flags: api.FlagDF, Length: 512}, 22},
		{"fast zeros that stay laid out", chunks, false, api.Request{Type: api.CmdZeroes, Flags: api.FlagFast | api.FlagNoHole, Length: 512}, 95},
		{"no command", chunks, false, api.Request{Type: 8}, 22},
		{"an extended write", both, false, api.Request{Type: api.CmdWrite, Flags: api.FlagPayload, Length: 512}, 0},
		{"an extended write, headers alone", wide, false, api.Request{Type: api.CmdWrite, Flags: api.FlagPayload, Length: 512}, 0},
		{"an extended write without FlagPayload", both, false, api.Request{Type: api.CmdWrite, Length: 512}, 22},
		{"a write with FlagPayload", chunks, false, api.Request{Type: api.CmdWrite, Flags: api.FlagPayload, Length: 512}, 22},
		{"a trim with FlagPayload", chunks, false, api.Request{Type: api.CmdTrim, Flags: api.FlagPayload, Length: 512}, 22},
		{"an extended trim with FlagPayload", both, false, api.Request{Type: api.CmdTrim, Flags: api.FlagPayload, Length: 512}, 22},
	} {
		e := small()
		e.ReadOnly = x.only
		wantCheck(t, x.what, asked{e, x.s, payload(1024), x.q}, x.code)
	}
}
