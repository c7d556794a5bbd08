package wire

import (
	"slices"

	"spindle/api"
	"spindle/octet"
)

// A reading is a message that is being decoded: its head, what stands behind that, and what there is to tell of it so far.
type reading struct {
	head   *octet.Reader
	behind []byte
	length int // how many of the bytes behind are its Data
	n      int
	err    api.Errno
}

// open begins with a head of so many bytes. It alone goes through a reader, which copies what it is given: a row of bytes may hold many messages, and is decoded anew for each of them.
func open(b []byte, size int) *reading {
	if len(b) < size {
		return &reading{n: size, err: api.ErrShort}
	}
	return &reading{head: octet.NewReader(b[:size]), behind: b[size:], n: size}
}

// The numbers of a head that is there are never short; those of one that is not are 0.

func (r *reading) u16() uint16 {
	v, _ := r.head.U16()
	return v
}

func (r *reading) u32() uint32 {
	v, _ := r.head.U32()
	return v
}

func (r *reading) u64() uint64 {
	v, _ := r.head.U64()
	return v
}

// number reads what layNumber lays down.
func (r *reading) number(wide bool) uint64 {
	if wide {
		return r.u64()
	}
	return uint64(r.u32())
}

// magic tells whether all is well up to the magic that was found.
func (r *reading) magic(found, magic uint64) bool {
	if r.err == api.OK && found != magic {
		r.refuse(api.ErrMagic)
	}
	return r.err == api.OK
}

func (r *reading) magic32(magic uint32) bool { return r.magic(uint64(r.u32()), uint64(magic)) }

// zeros tells whether all is well, and what is left of the head is 0.
func (r *reading) zeros() bool {
	rest, _ := r.head.Raw(r.head.Left())
	if slices.ContainsFunc(rest, func(b byte) bool { return b != 0 }) {
		r.refuse(api.ErrForm)
	}
	return r.err == api.OK
}

// refuse is for bytes that no more bytes can mend: none are wanted.
func (r *reading) refuse(e api.Errno) { r.n, r.err = 0, e }

// measure holds the length that a head tells against the most that may be, and against the bytes that are there (P8.1). It tells whether there is a message to be told.
func (r *reading) measure(length uint64, most uint32) bool {
	switch {
	case length > uint64(most):
		r.err = api.ErrLong
	case length > uint64(len(r.behind)):
		r.err = api.ErrShort
		fallthrough
	default:
		r.n += int(length)
		r.length = int(length)
	}
	return r.err != api.ErrShort
}

// data copies what was measured; of a message that is too long nothing was.
func (r *reading) data() []byte { return append([]byte(nil), r.behind[:r.length]...) }
