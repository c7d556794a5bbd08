package trace_test

import (
	"fmt"
	"strings"
	"testing"

	"spindle/api"
	"spindle/trace"
)

// wantTold asks for a record's line, by either side, with Last and without.
func wantTold(t *testing.T, r api.Record, wanted string) {
	t.Helper()
	for _, server := range []bool{false, true} {
		for _, ends := range []bool{false, true} {
			r.Server, r.Last = server, ends
			line := map[bool]string{false: "client ", true: "server "}[server] + wanted + map[bool]string{true: " last"}[ends]
			want(t, "Tell", trace.Tell(r), line)
		}
	}
}

// P22.9: each kind, and the fields that it tells.
func TestTell(t *testing.T) {
	all := api.Record{N: 11, Code: 3, Flags: 2, Size: 44, Request: api.Request{Flags: 55, Type: 6, Cookie: 77, Offset: 88, Length: 99, Data: many(9)}}
	lines := map[api.RecordKind]string{
		api.RecGreeting: "greeting 2",
		api.RecFlags:    "flags 2",
		api.RecOption:   "option list 44",
		api.RecReply:    "reply list server 44",
		api.RecExport:   "export 44 2",
		api.RecRequest:  "request 11 write-zeroes 55 77 88 99",
		api.RecAnswer:   "answer 11 3 44",
		api.RecChunk:    "chunk 11 3 44",
		api.RecWrong:    "wrong",
		0:               "record 0",
		10:              "record 10",
		-1:              "record -1",
		1 << 40:         "record 1099511627776",
		-1 << 63:        "record -9223372036854775808",
		1<<63 - 1:       "record 9223372036854775807",
	}
	for kind, line := range lines {
		all.Kind = kind
		wantTold(t, all, line)
	}
	zeros := map[api.RecordKind]string{
		api.RecGreeting: "greeting 0", api.RecFlags: "flags 0", api.RecOption: "option 0 0", api.RecReply: "reply 0 0 0", api.RecExport: "export 0 0",
		api.RecRequest: "request 0 read 0 0 0 0", api.RecAnswer: "answer 0 ok 0", api.RecChunk: "chunk 0 none 0", api.RecWrong: "wrong", 0: "record 0",
	}
	for kind, line := range zeros {
		wantTold(t, api.Record{Kind: kind}, line)
	}
}

// P22.9: numbers in decimal, to their ends; N may be below 0.
func TestTellNumbers(t *testing.T) {
	for _, n := range []int{-1 << 63, -77, -1, 0, 1, 1<<63 - 1} {
		wantTold(t, api.Record{Kind: api.RecAnswer, N: n, Size: max64}, fmt.Sprintf("answer %d ok 18446744073709551615", n))
		wantTold(t, api.Record{Kind: api.RecChunk, N: n, Code: 1, Size: 1}, fmt.Sprintf("chunk %d data 1", n))
		wantTold(t, api.Record{Kind: api.RecRequest, N: n, Request: api.Request{Flags: max16, Type: max16, Cookie: max64, Offset: max64 - 1, Length: max64 - 2}},
			fmt.Sprintf("request %d 65535 65535 18446744073709551615 18446744073709551614 18446744073709551613", n))
	}
	wantTold(t, api.Record{Kind: api.RecGreeting, Flags: max32}, "greeting 4294967295")
	wantTold(t, api.Record{Kind: api.RecFlags, Flags: max32}, "flags 4294967295")
	wantTold(t, api.Record{Kind: api.RecExport, Flags: max32, Size: max64}, "export 18446744073709551615 4294967295")
	wantTold(t, api.Record{Kind: api.RecOption, Code: max32, Size: max64}, "option 4294967295 18446744073709551615")
	wantTold(t, api.Record{Kind: api.RecReply, Code: max32, Flags: max32, Size: max64}, "reply 4294967295 4294967295 18446744073709551615")
}

// named are the names of chapter 8, a table each.
var named = map[string]map[uint32]string{
	"option":  {1: "export-name", 2: "abort", 3: "list", 5: "starttls", 6: "info", 7: "go", 8: "structured-reply", 9: "list-meta-context", 10: "set-meta-context", 11: "extended-headers"},
	"reply":   {1: "ack", 2: "server", 3: "info", 4: "meta-context", 1<<31 + 1: "unsup", 1<<31 + 2: "policy", 1<<31 + 3: "invalid", 1<<31 + 4: "platform", 1<<31 + 5: "tls-reqd", 1<<31 + 6: "unknown", 1<<31 + 7: "shutdown", 1<<31 + 8: "block-size-reqd", 1<<31 + 9: "too-big", 1<<31 + 10: "ext-header-reqd"},
	"command": {0: "read", 1: "write", 2: "disc", 3: "flush", 4: "trim", 5: "cache", 6: "write-zeroes", 7: "block-status"},
	"chunk":   {0: "none", 1: "data", 2: "hole", 5: "status", 6: "status-64", 32769: "error", 32770: "error-at"},
	"error":   {0: "ok", 1: "eperm", 5: "eio", 12: "enomem", 22: "einval", 28: "enospc", 75: "eoverflow", 95: "enotsup", 108: "eshutdown"},
}

func nameOf(table string, n uint32) string {
	if s, ok := named[table][n]; ok {
		return s
	}
	return fmt.Sprint(n)
}

// P22.9: names where there are any, numbers where there are none, each by its own table.
func TestTellNames(t *testing.T) {
	var numbers []uint32
	for n := range uint32(130) {
		numbers = append(numbers, n, 1<<31+n, 32760+n)
	}
	for _, n := range append(numbers, max16, max32, 1<<31-1) {
		wantTold(t, api.Record{Kind: api.RecOption, Code: n, Size: 5}, "option "+nameOf("option", n)+" 5")
		wantTold(t, api.Record{Kind: api.RecReply, Code: n, Flags: 3}, "reply "+nameOf("option", n)+" info 0")
		wantTold(t, api.Record{Kind: api.RecReply, Code: 7, Flags: n, Size: 6}, "reply go "+nameOf("reply", n)+" 6")
		wantTold(t, api.Record{Kind: api.RecAnswer, N: 4, Code: n}, "answer 4 "+nameOf("error", n)+" 0")
		wantTold(t, api.Record{Kind: api.RecChunk, N: 4, Code: n}, "chunk 4 "+nameOf("chunk", n)+" 0")
		if n <= max16 {
			wantTold(t, api.Record{Kind: api.RecRequest, N: 4, Code: n, Request: api.Request{Type: uint16(n)}}, "request 4 "+nameOf("command", n)+" 0 0 0 0")
		}
	}
}

// P22.9: one line without its end, with one blank between its words, of all records; nothing is changed.
func TestTellThrownRecords(t *testing.T) {
	d := dice(22)
	for range 3000 {
		data := roomy(many(d.below(4)), 0xaa)
		r := api.Record{
			Kind: api.RecordKind(d.below(13) - 2), Server: d.bool(), N: d.below(5) - 2, Code: pick[uint32](&d, 0, 1, 5, 7, 32769, max32), Flags: pick[uint32](&d, 0, 1, 3, 1<<31+1, max32),
			Size: pick[uint64](&d, 0, 9, max64), Last: d.bool(), Request: api.Request{Type: uint16(d.below(10)), Flags: uint16(d.below(70)), Cookie: pick[uint64](&d, 0, max64), Data: data},
		}
		line := trace.Tell(r)
		want(t, "Tell again", trace.Tell(r), line)
		want(t, "blanks", strings.Join(strings.Fields(line), " "), line)
		want(t, "Last", strings.HasSuffix(line, " last"), r.Last)
		if string(whole(data)) != string(whole(roomy(many(len(data)), 0xaa))) {
			t.Error("Tell has changed the Data of a record")
		}
	}
}
