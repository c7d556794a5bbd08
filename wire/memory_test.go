package wire_test

import (
	"bytes"
	"slices"
	"testing"

	"spindle/api"
	"spindle/wire"
)

// R4: bytes that are handed to a decoder are not changed, with the room behind them; what it tells is its own.
func TestDecodeMemory(t *testing.T) {
	for _, f := range forms() {
		for _, s := range f.samples {
			b := roomy(append(slices.Clone(s.bytes), many(10)...))
			before := bytes.Clone(whole(b))
			first, _, _ := f.decode(b, max32)
			second, _, _ := f.decode(b, max32)
			f.decode(b, 0)
			f.decode(b[:len(s.bytes)-1], max32)
			wantBytes(t, "what was handed to Decode "+f.name, whole(b), before)
			spoilList(first)
			wantSame(t, "another answer of Decode "+f.name, second, s.message)
			wantBytes(t, "what was handed to Decode "+f.name, whole(b), before)
			spoil(b, 0xee)
			wantSame(t, "an answer of Decode "+f.name, second, s.message)
		}
	}
}

// spoilList spoils the list of a message or of what stands in Data, if it has one.
func spoilList(v any) {
	switch x := v.(type) {
	case api.Option:
		spoil(x.Data, 0xdd)
	case api.OptionReply:
		spoil(x.Data, 0xdd)
	case api.Request:
		spoil(x.Data, 0xdd)
	case api.Chunk:
		spoil(x.Data, 0xdd)
	case api.Info:
		spoil(x.Data, 0xdd)
	case api.InfoRequest:
		spoil(x.Infos, 0xdd)
	case api.MetaRequest:
		spoil(x.Queries, "spoilt")
	case api.ServerItem:
		spoil(x.Rest, 0xdd)
	case api.StatusBody:
		spoil(x.Runs, api.StatusRun{Len: 99, Flags: 99})
	case api.DataBody:
		spoil(x.Data, 0xdd)
	}
}

// R4: likewise bytes that are handed to UnpackX.
func TestUnpackMemory(t *testing.T) {
	for _, c := range contents() {
		for _, s := range c.samples {
			b := roomy(s.bytes)
			before := bytes.Clone(whole(b))
			first, _ := c.unpack(b)
			second, _ := c.unpack(b)
			c.unpack(b[:len(b)-1])
			wantBytes(t, "what was handed to Unpack "+c.name, whole(b), before)
			spoilList(first)
			wantSame(t, "another answer of Unpack "+c.name, second, s.message)
			wantBytes(t, "what was handed to Unpack "+c.name, whole(b), before)
			spoil(b, 0xee)
			wantSame(t, "an answer of Unpack "+c.name, second, s.message)
		}
	}
}

// R4: a message that is handed in is not changed, with the room behind its list, and not kept; the bytes that are answered are nobody else's.
func TestEncodeMemory(t *testing.T) {
	for _, f := range forms() {
		for _, s := range f.samples {
			wantOwnBytes(t, "Encode "+f.name, s, f.encode)
		}
	}
	for _, c := range contents() {
		for _, s := range c.samples {
			wantOwnBytes(t, "Pack "+c.name, s, c.pack)
		}
	}
}

func wantOwnBytes(t *testing.T, what string, s sample, encode func(any) ([]byte, api.Errno)) {
	t.Helper()
	m, copied, room := roomyMessage(s.message)
	before := room()
	first, _ := encode(m)
	second, _ := encode(m)
	wantSame(t, "what was handed to "+what, m, copied)
	wantSame(t, "the room of what was handed to "+what, room(), before)
	spoil(first, 0xee)
	wantBytes(t, "another answer of "+what, second, s.bytes)
	wantSame(t, "what was handed to "+what, m, copied)
	spoilList(m)
	wantBytes(t, "an answer of "+what, second, s.bytes)
}

// roomyMessage gives a message whose list has spare room behind it, the same one anew, and what tells all that is in that room.
func roomyMessage(v any) (any, any, func() any) {
	switch x := v.(type) {
	case api.Option:
		x.Data = roomy(x.Data)
		return x, v, func() any { return bytes.Clone(whole(x.Data)) }
	case api.OptionReply:
		x.Data = roomy(x.Data)
		return x, v, func() any { return bytes.Clone(whole(x.Data)) }
	case api.Request:
		x.Data = roomy(x.Data)
		return x, v, func() any { return bytes.Clone(whole(x.Data)) }
	case api.Chunk:
		x.Data = roomy(x.Data)
		return x, v, func() any { return bytes.Clone(whole(x.Data)) }
	case api.Info:
		x.Data = roomy(x.Data)
		return x, v, func() any { return bytes.Clone(whole(x.Data)) }
	case api.InfoRequest:
		x.Infos = append(slices.Clone(x.Infos), 7, 8, 9)[:len(x.Infos)]
		return x, v, func() any { return slices.Clone(whole(x.Infos)) }
	case api.MetaRequest:
		x.Queries = append(slices.Clone(x.Queries), "x", "y")[:len(x.Queries)]
		return x, v, func() any { return slices.Clone(whole(x.Queries)) }
	case api.ServerItem:
		x.Rest = roomy(x.Rest)
		return x, v, func() any { return bytes.Clone(whole(x.Rest)) }
	case api.StatusBody:
		x.Runs = append(slices.Clone(x.Runs), api.StatusRun{Len: 7})[:len(x.Runs)]
		return x, v, func() any { return slices.Clone(whole(x.Runs)) }
	case api.DataBody:
		x.Data = roomy(x.Data)
		return x, v, func() any { return bytes.Clone(whole(x.Data)) }
	}
	return v, v, func() any { return nil }
}

// R4: a list that is empty, with room behind it, is as nil, and that room is not used.
func TestEmptyListsWithRoom(t *testing.T) {
	room := many(40)
	for _, extended := range []bool{false, true} {
		r := api.Request{Type: 3, Data: room[:0]}
		b, e := wire.EncodeRequest(r, extended)
		wantErr(t, "a request", e, api.OK)
		wantBytes(t, "a request", b, requestBytes(r, extended))
		wantBytes(t, "a chunk", wire.EncodeChunk(api.Chunk{Data: room[:0]}, extended), chunkBytes(api.Chunk{}, extended))
	}
	b, e := wire.EncodeOption(api.Option{Code: 3, Data: room[:0]})
	wantErr(t, "an option", e, api.OK)
	wantBytes(t, "an option", b, lay("IHAVEOPT", uint32(3), uint32(0)))
	for _, kind := range []uint16{0, 1, 2, 3, 4} {
		given, givenErr := wire.PackInfo(api.Info{Kind: kind, Data: room[:0]})
		plain, plainErr := wire.PackInfo(api.Info{Kind: kind})
		wantErr(t, "an information", givenErr, plainErr)
		wantBytes(t, "an information", given, plain)
	}
	_, e = wire.PackData(api.DataBody{Data: room[:0]})
	wantErr(t, "no data", e, api.ErrForm)
	_, e = wire.PackStatus(api.StatusBody{Runs: make([]api.StatusRun, 0, 3)}, true)
	wantErr(t, "no runs", e, api.ErrForm)
	wantBytes(t, "the room", room, many(40))
}
