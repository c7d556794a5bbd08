package wire_test

import (
	"fmt"
	"testing"

	"spindle/api"
	"spindle/wire"
)

// P8.2: every kind of message, byte by byte.
func TestEncode(t *testing.T) {
	for _, f := range forms() {
		for i, s := range f.samples {
			b, e := f.encode(s.message)
			what := fmt.Sprint("Encode ", f.name, i)
			wantErr(t, what, e, api.OK)
			wantBytes(t, what, b, s.bytes)
		}
	}
}

// P8.2: the Off of a plain chunk is not laid down.
func TestEncodeChunkWithoutOff(t *testing.T) {
	c := api.Chunk{Flags: 1, Type: 2, Cookie: 3, Off: 0x0102030405060708, Data: many(4)}
	wantBytes(t, "a plain chunk with an Off", wire.EncodeChunk(c, false), chunkBytes(c, false))
}

// P8.2: an option that is too long, or says another length than it has.
func TestEncodeOptionRefuses(t *testing.T) {
	for _, o := range []api.Option{
		{Code: 3, Long: true},
		{Code: 3, Len: 2, Long: true, Data: many(2)},
		{Code: 3, Len: 70000, Long: true},
		{Code: 3, Len: 1},
		{Code: 3, Len: max32},
		{Code: 3, Data: many(1)},
		{Code: 3, Len: 2, Data: many(3)},
		{Code: 3, Len: 4, Data: many(3)},
		{Code: 3, Len: 1, Data: many(257)},
		{Code: 3, Len: 0, Data: many(65536)},
	} {
		b, e := wire.EncodeOption(o)
		wantErr(t, "EncodeOption of "+short(o), e, api.ErrForm)
		want(t, "bytes beside the error", len(b), 0)
	}
}

// refusedRequests may not be laid down, plain or extended.
func refusedRequests(extended bool) []api.Request {
	pays := uint16(0)
	if extended {
		pays = api.FlagPayload
	}
	out := []api.Request{
		{Flags: pays, Type: api.CmdWrite, Length: 1},
		{Flags: pays, Type: api.CmdWrite, Data: many(1)},
		{Flags: pays, Type: api.CmdWrite, Length: 4, Data: many(3)},
		{Flags: pays, Type: api.CmdWrite, Length: 2, Data: many(3)},
		{Flags: pays, Type: api.CmdWrite, Length: max32, Data: many(3)},
		{Flags: pays, Type: api.CmdWrite, Length: max32 + 1},
		{Flags: pays, Type: api.CmdWrite, Length: max32 + 1 + 3, Data: many(3)},
		{Flags: pays, Type: api.CmdWrite, Length: max64, Data: many(3)},
		{Flags: pays, Type: api.CmdWrite, Length: max64},
	}
	for _, c := range commands() {
		if extended || c != api.CmdWrite { // without a payload
			out = append(out,
				api.Request{Type: c, Length: 3, Data: many(3)},
				api.Request{Type: c, Data: many(1)},
				api.Request{Flags: 0xffdf, Type: c, Length: 512, Data: many(1)})
		}
		if extended { // with one, whatever the command
			out = append(out,
				api.Request{Flags: api.FlagPayload, Type: c, Length: 1},
				api.Request{Flags: 0xffff, Type: c, Length: 512, Data: many(511)},
				api.Request{Flags: 0xffff, Type: c, Length: max32 + 1 + 511, Data: many(511)})
		}
		if !extended {
			out = append(out,
				api.Request{Flags: api.FlagPayload, Type: c, Length: max32 + 1},
				api.Request{Type: c, Length: max64},
				api.Request{Flags: api.FlagPayload, Type: c, Length: max32 + 1 + 3, Data: many(3)})
		}
	}
	return out
}

// P8.2: payloads of another length than is said, Data that is no payload, lengths that four bytes cannot tell.
func TestEncodeRequestRefuses(t *testing.T) {
	for _, extended := range []bool{false, true} {
		for _, r := range refusedRequests(extended) {
			b, e := wire.EncodeRequest(r, extended)
			wantErr(t, "EncodeRequest"+suffix(extended, "extended")+" of "+short(r), e, api.ErrForm)
			want(t, "bytes beside the error", len(b), 0)
		}
	}
}

// P8.2: which requests have a payload.
func TestWhichRequestsHaveAPayload(t *testing.T) {
	for _, c := range commands() {
		for _, flags := range []uint16{0, api.FlagPayload, 0xffdf, 0xffff} {
			r := api.Request{Flags: flags, Type: c, Length: 3, Data: many(3)}
			for _, extended := range []bool{false, true} {
				has := extended && flags&32 != 0 || !extended && c == 1
				what := "a request with Data" + suffix(extended, "extended") + ": " + short(r)
				b, e := wire.EncodeRequest(r, extended)
				got, n, _ := wire.DecodeRequest(requestBytes(r, extended), 3, extended)
				if !has {
					wantErr(t, what, e, api.ErrForm)
					want(t, what+": bytes that are read", n, len(requestBytes(r, extended))-3)
					want(t, what+": Data that is read", len(got.Data), 0)
					continue
				}
				wantErr(t, what, e, api.OK)
				wantBytes(t, what, b, requestBytes(r, extended))
				wantBytes(t, what+": Data that is read", got.Data, many(3))
			}
		}
	}
}
