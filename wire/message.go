package wire

import (
	"math"

	"spindle/api"
	"spindle/octet"
)

// EncodeOption lays an option down (P8.2).
func EncodeOption(o api.Option) ([]byte, api.Errno) {
	if o.Long || uint64(o.Len) != uint64(len(o.Data)) {
		return nil, api.ErrForm
	}
	w := octet.NewWriter()
	w.U64(api.MagicOption)
	w.U32(o.Code)
	w.U32(o.Len)
	w.Raw(o.Data)
	return w.Out(), api.OK
}

// DecodeOption reads an option (P8.4).
func DecodeOption(b []byte, most uint32) (api.Option, int, api.Errno) {
	var o, said api.Option
	r := open(b, api.OptionHead)
	if !r.magic(r.u64(), api.MagicOption) {
		goto end
	}
	said.Code, said.Len = r.u32(), r.u32()
	if !r.measure(uint64(said.Len), most) {
		goto end
	}
	said.Long, said.Data = r.err == api.ErrLong, r.data()
	o = said
end:
	return o, r.n, r.err
}

// EncodeReply lays an answer to an option down (P8.2).
func EncodeReply(r api.OptionReply) []byte {
	w := octet.NewWriter()
	w.U64(api.MagicReply)
	w.U32(r.Option)
	w.U32(r.Kind)
	w.U32(uint32(len(r.Data)))
	w.Raw(r.Data)
	return w.Out()
}

// DecodeReply reads an answer to an option (P8.4).
func DecodeReply(b []byte, most uint32) (api.OptionReply, int, api.Errno) {
	var o, said api.OptionReply
	r := open(b, api.ReplyHead)
	if !r.magic(r.u64(), api.MagicReply) {
		goto end
	}
	said.Option, said.Kind = r.u32(), r.u32()
	if !r.measure(uint64(r.u32()), most) {
		goto end
	}
	said.Data = r.data()
	o = said
end:
	return o, r.n, r.err
}

// EncodeRequest lays a request down (P8.2).
func EncodeRequest(r api.Request, extended bool) ([]byte, api.Errno) {
	if !requestFits(r, extended) {
		return nil, api.ErrForm
	}
	magic, _ := requestHead(extended)
	w := octet.NewWriter()
	w.U32(magic)
	w.U16(r.Flags)
	w.U16(r.Type)
	w.U64(r.Cookie)
	w.U64(r.Offset)
	layNumber(w, r.Length, extended)
	w.Raw(r.Data)
	return w.Out(), api.OK
}

// DecodeRequest reads a request (P8.4).
func DecodeRequest(b []byte, most uint32, extended bool) (api.Request, int, api.Errno) {
	var q, said api.Request
	magic, size := requestHead(extended)
	r := open(b, size)
	if !r.magic32(magic) {
		goto end
	}
	said.Flags, said.Type = r.u16(), r.u16()
	said.Cookie, said.Offset, said.Length = r.u64(), r.u64(), r.number(extended)
	if hasPayload(said, extended) && !r.measure(said.Length, most) {
		goto end
	}
	said.Data = r.data()
	q = said
end:
	return q, r.n, r.err
}

func requestHead(extended bool) (magic uint32, size int) {
	if extended {
		return api.MagicRequest64, api.RequestHead64
	}
	return api.MagicRequest, api.RequestHead
}

// hasPayload tells whether Data belongs to a request: an extended one says so itself, a plain one by its command.
func hasPayload(r api.Request, extended bool) bool {
	if extended {
		return r.Flags&api.FlagPayload != 0
	}
	return r.Type == api.CmdWrite
}

func requestFits(r api.Request, extended bool) bool {
	switch {
	case !extended && r.Length > math.MaxUint32:
		return false
	case hasPayload(r, extended):
		return r.Length == uint64(len(r.Data))
	}
	return len(r.Data) == 0
}

// EncodeChunk lays a chunk down (P8.2).
func EncodeChunk(c api.Chunk, extended bool) []byte {
	magic, _ := chunkHead(extended)
	w := octet.NewWriter()
	w.U32(magic)
	w.U16(c.Flags)
	w.U16(c.Type)
	w.U64(c.Cookie)
	if extended {
		w.U64(c.Off)
	}
	layNumber(w, uint64(len(c.Data)), extended)
	w.Raw(c.Data)
	return w.Out()
}

// DecodeChunk reads a chunk (P8.4).
func DecodeChunk(b []byte, most uint32, extended bool) (api.Chunk, int, api.Errno) {
	var c, said api.Chunk
	magic, size := chunkHead(extended)
	r := open(b, size)
	if !r.magic32(magic) {
		goto end
	}
	said.Flags, said.Type, said.Cookie = r.u16(), r.u16(), r.u64()
	if extended {
		said.Off = r.u64()
	}
	if !r.measure(r.number(extended), most) {
		goto end
	}
	said.Data = r.data()
	c = said
end:
	return c, r.n, r.err
}

func chunkHead(extended bool) (magic uint32, size int) {
	if extended {
		return api.MagicChunk64, api.ChunkHead64
	}
	return api.MagicChunk, api.ChunkHead
}

// layNumber lays a number down, in eight bytes where there is room for them: in an extended header, in a wide status.
func layNumber(w *octet.Writer, n uint64, wide bool) {
	if wide {
		w.U64(n)
		return
	}
	w.U32(uint32(n))
}
