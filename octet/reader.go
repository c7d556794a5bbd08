package octet

import (
	"slices"

	"spindle/api"
)

// Reader takes bytes from the front. NewReader alone makes one.
type Reader struct {
	made  bool // tells a reader of NewReader from a zero value, which has nothing to read
	bytes []byte
	at    int
}

// NewReader answers a reader of its own copy of b.
func NewReader(b []byte) *Reader {
	return &Reader{made: true, bytes: slices.Clone(b)}
}

func (r *Reader) usable() bool { return r != nil && r.made }

// number reads size bytes as a number, the highest first.
func (r *Reader) number(size int) (uint64, api.Errno) {
	switch {
	case !r.usable():
		return 0, api.ErrNil
	case r.Left() < size:
		return 0, api.ErrShort
	}
	var v uint64
	for _, b := range r.bytes[r.at : r.at+size] {
		v = v<<8 | uint64(b)
	}
	r.at += size
	return v, api.OK
}

// U8 reads a number of one byte.
func (r *Reader) U8() (uint8, api.Errno) {
	v, e := r.number(size8)
	return uint8(v), e
}

// U16 reads a number of two bytes.
func (r *Reader) U16() (uint16, api.Errno) {
	v, e := r.number(size16)
	return uint16(v), e
}

// U32 reads a number of four bytes.
func (r *Reader) U32() (uint32, api.Errno) {
	v, e := r.number(size32)
	return uint32(v), e
}

// U64 reads a number of eight bytes.
func (r *Reader) U64() (uint64, api.Errno) {
	return r.number(size64)
}

// Raw reads n bytes.
func (r *Reader) Raw(n int) ([]byte, api.Errno) {
	switch {
	case !r.usable():
		return nil, api.ErrNil
	case n < 0:
		return nil, api.ErrArg
	case r.Left() < n:
		return nil, api.ErrShort
	}
	out := slices.Clone(r.bytes[r.at : r.at+n])
	r.at += n
	return out, api.OK
}

// Text reads a text with its length ahead.
func (r *Reader) Text(most int) (string, api.Errno) {
	if !r.usable() {
		return "", api.ErrNil
	}
	// A second reader goes ahead, so that an error behind the length leaves this one where it was.
	ahead := *r
	size, e := ahead.U32()
	switch {
	case e != api.OK:
		return "", e
	case most < 0 || uint64(size) > uint64(most):
		return "", api.ErrLong
	case uint64(size) > uint64(ahead.Left()):
		return "", api.ErrShort
	}
	end := ahead.at + int(size)
	s := string(ahead.bytes[ahead.at:end])
	if !Plain(s) {
		return "", api.ErrText
	}
	r.at = end
	return s, api.OK
}

// At tells how many bytes were read.
func (r *Reader) At() int {
	if !r.usable() {
		return 0
	}
	return r.at
}

// Left tells how many bytes are left.
func (r *Reader) Left() int {
	if !r.usable() {
		return 0
	}
	return len(r.bytes) - r.at
}

// End asks whether all was read.
func (r *Reader) End() api.Errno {
	switch {
	case !r.usable():
		return api.ErrNil
	case r.Left() > 0:
		return api.ErrTail
	}
	return api.OK
}
