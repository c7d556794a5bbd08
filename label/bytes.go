package label

import (
	"bytes"
	"cmp"

	"spindle/api"
	"spindle/octet"
)

const (
	bodyBytes = api.LabelBody * api.SectorSize
	magicSize = 8 // bytes of a head ahead of its Seq
)

// A label's number is firstSeq at first; noSeq stands for no label.
const (
	noSeq    = 0
	firstSeq = 1
)

// What an export's one byte of flags is made of.
const (
	flagReadOnly = 1 << iota
	flagRotational
	flagPrivate
	flagTracked
)

// head is a slot's head, an array: two of them are compared whole.
type head [api.SectorSize]byte

// title is what a head tells: the label's number, and of its body how many exports it has, how many bytes are used, and its check sum.
type title struct {
	seq   uint64
	count uint16
	used  uint32
	sum   uint32
}

// Encode lays a label down: a head and a body (P6.4).
func Encode(l api.Label, seq uint64) ([]byte, []byte, api.Errno) {
	if e := Check(l); e != api.OK {
		return nil, nil, e
	}
	if !numbered(seq) {
		return nil, nil, api.ErrArg
	}
	h, body := encode(l, seq)
	return h[:], body, api.OK
}

// Decode reads a head and a body (P6.5).
func Decode(headBytes, body []byte) (api.Label, uint64, api.Errno) {
	if len(headBytes) != api.SectorSize {
		return api.Label{}, 0, api.ErrNone
	}
	t, ok := head(headBytes).title()
	if !ok {
		return api.Label{}, 0, api.ErrNone
	}
	l, ok := t.readBody(body)
	if !ok {
		return api.Label{}, 0, api.ErrSpoilt
	}
	return l, t.seq, api.OK
}

// numbered tells whether a label may have this number.
func numbered(seq uint64) bool { return seq >= firstSeq && seq <= api.MaxSeq }

// encode is for a label and a number that may be.
func encode(l api.Label, seq uint64) (head, []byte) {
	body, used := layBody(l)
	t := title{seq: seq, count: uint16(len(l.Exports)), used: uint32(used), sum: octet.Crc(body)}
	return t.head(), body
}

// head lays a title down; behind its last check sum the array is 0 of itself.
func (t title) head() head {
	w := octet.NewWriter()
	w.U64(api.LabelMagic)
	w.U64(t.seq)
	w.U16(t.count)
	w.U32(t.used)
	w.U32(t.sum)
	w.U32(octet.Crc(w.Out()))
	var h head
	copy(h[:], w.Out())
	return h
}

// title takes a head only if it is, to the last byte, the one that its title gives: so magic, check sum and the zeros behind are looked at in one. None of the reads can be short.
func (h head) title() (title, bool) {
	r := octet.NewReader(h[magicSize:])
	var t title
	t.seq, _ = r.U64()
	t.count, _ = r.U16()
	t.used, _ = r.U32()
	t.sum, _ = r.U32()
	return t, numbered(t.seq) && t.head() == h
}

// layBody gives the body of a label that may be, and how many bytes of it are used.
func layBody(l api.Label) ([]byte, int) {
	w := octet.NewWriter()
	for _, e := range l.Exports {
		layText(w, e.Name)
		layText(w, e.Desc)
		w.U32(uint32(e.Sectors))
		w.U8(flags(e))
		w.U32(e.Min)
		w.U32(e.Pref)
	}
	used := w.Len()
	w.Zeros(bodyBytes - used)
	return w.Out(), used
}

// layText has a length of two bytes ahead, where octet's texts have four.
func layText(w *octet.Writer, s string) {
	w.U16(uint16(len(s)))
	w.Raw([]byte(s))
}

func flags(e api.Export) uint8 {
	return flag(e.ReadOnly, flagReadOnly) | flag(e.Rotational, flagRotational) |
		flag(e.Private, flagPrivate) | flag(e.Tracked, flagTracked)
}

func flag(set bool, value uint8) uint8 {
	if set {
		return value
	}
	return 0
}

// readBody takes a body only if it is, to the last byte, the one that its label gives: so flags that there are not, and what stands behind the used bytes, are looked at in one.
func (t title) readBody(body []byte) (api.Label, bool) {
	if len(body) != bodyBytes || octet.Crc(body) != t.sum || t.used > bodyBytes {
		return api.Label{}, false
	}
	l, ok := readExports(body[:t.used], int(t.count))
	if !ok || Check(l) != api.OK {
		return api.Label{}, false
	}
	if again, _ := layBody(l); !bytes.Equal(again, body) {
		return api.Label{}, false
	}
	return l, true
}

// readExports reads just so many exports, up to the last byte.
func readExports(used []byte, count int) (api.Label, bool) {
	r := octet.NewReader(used)
	var l api.Label
	for range count {
		x, e := readExport(r)
		if e != api.OK {
			return api.Label{}, false
		}
		l.Exports = append(l.Exports, x)
	}
	return l, r.End() == api.OK
}

func readExport(r *octet.Reader) (api.Export, api.Errno) {
	name, nameErr := readText(r)
	desc, descErr := readText(r)
	sectors, sectorsErr := r.U32()
	f, flagsErr := r.U8()
	least, minErr := r.U32()
	pref, prefErr := r.U32()
	return api.Export{
		Name:       name,
		Desc:       desc,
		Sectors:    int(sectors),
		ReadOnly:   f&flagReadOnly != 0,
		Rotational: f&flagRotational != 0,
		Private:    f&flagPrivate != 0,
		Tracked:    f&flagTracked != 0,
		Min:        least,
		Pref:       pref,
	}, cmp.Or(nameErr, descErr, sectorsErr, flagsErr, minErr, prefErr)
}

func readText(r *octet.Reader) (string, api.Errno) {
	size, e := r.U16()
	if e != api.OK {
		return "", e
	}
	b, e := r.Raw(int(size))
	return string(b), e
}
