package wire_test

import (
	"encoding/hex"
	"strings"
	"testing"

	"spindle/api"
	"spindle/wire"
)

// digits reads bytes as the chapter writes them.
func digits(t *testing.T, s string) []byte {
	t.Helper()
	b, err := hex.DecodeString(strings.ReplaceAll(s, " ", ""))
	if err != nil {
		t.Fatal(err)
	}
	return b
}

const listBytes = "49 48 41 56 45 4F 50 54 00 00 00 03 00 00 00 00"

// The chapter's examples of messages that go out.
func TestExamplesOfEncode(t *testing.T) {
	wantBytes(t, "the greeting", wire.EncodeGreeting(api.Greeting{Flags: 3}), digits(t, "4E 42 44 4D 41 47 49 43 49 48 41 56 45 4F 50 54 00 03"))
	b, e := wire.EncodeOption(api.Option{Code: 3})
	wantErr(t, "the option", e, api.OK)
	wantBytes(t, "the option", b, digits(t, listBytes))
}

// The chapter's examples of options that come in.
func TestExamplesOfDecodeOption(t *testing.T) {
	list := digits(t, listBytes)
	o, n, e := wire.DecodeOption(append(list, 1, 2, 3), 0)
	wantTold(t, "16 bytes and more", o, n, e, api.Option{Code: 3}, 16, api.OK)
	o, n, e = wire.DecodeOption(list[:15], 0)
	wantTold(t, "15 bytes", o, n, e, api.Option{}, 16, api.ErrShort)
	o, n, e = wire.DecodeOption(lay("IHAVEOPT", uint32(7), uint32(70000)), 65536)
	wantTold(t, "Len 70000", o, n, e, api.Option{Code: 7, Len: 70000, Long: true}, 16, api.ErrLong)
}

// The chapter's example of a write of which not all is there.
func TestExampleOfDecodeRequest(t *testing.T) {
	plain := api.Request{Type: api.CmdWrite, Length: 8, Data: many(3)}
	r, n, e := wire.DecodeRequest(requestBytes(plain, false), 512, false)
	wantTold(t, "plain", r, n, e, api.Request{}, 36, api.ErrShort)
	r, n, e = wire.DecodeRequest(requestBytes(plain, true), 512, true)
	wantTold(t, "extended without FlagPayload", r, n, e, api.Request{Type: api.CmdWrite, Length: 8}, 32, api.OK)
	plain.Flags = api.FlagPayload
	r, n, e = wire.DecodeRequest(requestBytes(plain, true), 512, true)
	wantTold(t, "extended with it", r, n, e, api.Request{}, 40, api.ErrShort)
}

// The chapter's examples of what stands in Data.
func TestExamplesOfData(t *testing.T) {
	b, e := wire.PackInfoRequest(api.InfoRequest{Name: "a", Infos: []uint16{3, 1}})
	wantErr(t, "the request for information", e, api.OK)
	wantBytes(t, "the request for information", b, digits(t, "00 00 00 01 61 00 02 00 03 00 01"))
	_, e = wire.UnpackInfoRequest(digits(t, "00 00 00 05 61 00 00"))
	wantErr(t, "a name of five bytes", e, api.ErrForm)
	b, e = wire.PackError(api.ErrorBody{Code: 22, Text: "no", Placed: true, At: 512})
	wantErr(t, "the error", e, api.OK)
	wantBytes(t, "the error", b, digits(t, "00 00 00 16 00 02 6E 6F 00 00 00 00 00 00 02 00"))
	for _, wide := range []bool{false, true} {
		_, e = wire.UnpackStatus([]byte{0, 0, 0, 1}, wide)
		wantErr(t, "a status of four bytes", e, api.ErrForm)
	}
}

// The chapter's examples of names.
func TestExamplesOfNames(t *testing.T) {
	want(t, "Name", wire.Name(api.TableReply, 0x80000006), "unknown")
	n, ok := wire.Number(api.TableCommand, "trim")
	want(t, "Number", n, 4)
	want(t, "it has one", ok, true)
}
