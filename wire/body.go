package wire

import (
	"spindle/api"
	"spindle/octet"
)

// isText tells whether s is a text of the wire.
func isText(s string) bool { return len(s) <= api.MaxText && octet.Plain(s) }

// A body is what stands in Data, while it is read. The first thing that is wrong is what it ends with, and nothing that was read is told then: so an error is asked for once, at the end.
type body struct {
	from *octet.Reader
	err  api.Errno
}

func unpack(b []byte) *body { return &body{from: octet.NewReader(b)} }

func (x *body) well() bool { return x.err == api.OK }

func (x *body) refuse(e api.Errno) {
	if x.well() {
		x.err = e
	}
}

// need is asked of every part: whatever octet has against it, the bytes are none of a body.
func (x *body) need(holds bool) {
	if !holds {
		x.refuse(api.ErrForm)
	}
}

func (x *body) u16() uint16 {
	v, e := x.from.U16()
	x.need(e == api.OK)
	return v
}

func (x *body) u32() uint32 {
	v, e := x.from.U32()
	x.need(e == api.OK)
	return v
}

func (x *body) u64() uint64 {
	v, e := x.from.U64()
	x.need(e == api.OK)
	return v
}

// number reads what layNumber lays down.
func (x *body) number(wide bool) uint64 {
	if wide {
		return x.u64()
	}
	return uint64(x.u32())
}

// text reads one with its length of four bytes ahead.
func (x *body) text() string {
	s, e := x.from.Text(api.MaxText)
	x.need(e == api.OK)
	return s
}

// raw reads n bytes.
func (x *body) raw(n int) []byte {
	b, e := x.from.Raw(n)
	x.need(e == api.OK)
	return b
}

// rawText reads a text of n bytes.
func (x *body) rawText(n int) string {
	s := string(x.raw(n))
	x.need(isText(s))
	return s
}

func (x *body) left() int { return x.from.Left() }

// count tells how many are to be read, of the n that are said: none, if these are more than may be.
func (x *body) count(n uint32, most uint32) int {
	if n > most {
		x.refuse(api.ErrMany)
	}
	if !x.well() {
		return 0
	}
	return int(n)
}

// whole answers what was read, if nothing was wrong and no byte is left.
func whole[T any](x *body, v T) (T, api.Errno) {
	x.need(x.from.End() == api.OK)
	if !x.well() {
		var none T
		return none, x.err
	}
	return v, api.OK
}
