package octet

import (
	"slices"

	"spindle/api"
)

// How many bytes the numbers have.
const (
	size8  = 1
	size16 = 2
	size32 = 4
	size64 = 8
)

// Writer gathers bytes. NewWriter alone makes one.
type Writer struct {
	made  bool // tells a writer of NewWriter from a zero value, which may not be written to
	bytes []byte
}

// NewWriter answers a writer without bytes.
func NewWriter() *Writer { return &Writer{made: true} }

func (w *Writer) usable() bool { return w != nil && w.made }

// number writes the lowest size bytes of v, the highest of them first.
func (w *Writer) number(v uint64, size int) {
	if !w.usable() {
		return
	}
	for i := size - 1; i >= 0; i-- {
		w.bytes = append(w.bytes, byte(v>>(8*i)))
	}
}

// U8 writes a number of one byte.
func (w *Writer) U8(v uint8) { w.number(uint64(v), size8) }

// U16 writes a number of two bytes.
func (w *Writer) U16(v uint16) { w.number(uint64(v), size16) }

// U32 writes a number of four bytes.
func (w *Writer) U32(v uint32) { w.number(uint64(v), size32) }

// U64 writes a number of eight bytes.
func (w *Writer) U64(v uint64) { w.number(v, size64) }

// Raw writes bytes as they are.
func (w *Writer) Raw(b []byte) {
	if w.usable() {
		w.bytes = append(w.bytes, b...)
	}
}

// Zeros writes n bytes 0.
func (w *Writer) Zeros(n int) api.Errno {
	switch {
	case !w.usable():
		return api.ErrNil
	case n < 0:
		return api.ErrArg
	case n > api.MaxInbox:
		return api.ErrLong
	}
	w.bytes = append(w.bytes, make([]byte, n)...)
	return api.OK
}

// Text writes a text's length and the text.
func (w *Writer) Text(s string) api.Errno {
	switch {
	case !w.usable():
		return api.ErrNil
	case !Plain(s):
		return api.ErrText
	case len(s) > api.MaxText:
		return api.ErrLong
	}
	w.U32(uint32(len(s)))
	w.bytes = append(w.bytes, s...)
	return api.OK
}

// Len tells how many bytes there are.
func (w *Writer) Len() int {
	if !w.usable() {
		return 0
	}
	return len(w.bytes)
}

// Out answers the bytes, in new memory: more may be written behind them.
func (w *Writer) Out() []byte {
	if !w.usable() {
		return nil
	}
	return slices.Clone(w.bytes)
}
