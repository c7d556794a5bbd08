package wire_test

import (
	"encoding/binary"
	"fmt"
	"slices"
	"strings"
	"testing"
	"unicode/utf8"

	"spindle/api"
)

// What the chapter's tables say of bytes, reckoned by places alone.

func at16(b []byte, at int) uint16 { return binary.BigEndian.Uint16(b[at:]) }
func at32(b []byte, at int) uint32 { return binary.BigEndian.Uint32(b[at:]) }
func at64(b []byte, at int) uint64 { return binary.BigEndian.Uint64(b[at:]) }

func isText(s string) bool {
	return len(s) <= 4096 && utf8.ValidString(s) && !strings.Contains(s, "\x00")
}

// plainText is a text with its length ahead, at a place, and the place behind it (-1, if there is none).
func plainText(b []byte, at int) (string, int) {
	if at < 0 || len(b)-at < 4 || uint64(at32(b, at)) > uint64(len(b)-at-4) {
		return "", -1
	}
	s := string(b[at+4:][:at32(b, at)])
	if !isText(s) {
		return "", -1
	}
	return s, at + 4 + len(s)
}

func plainInfo(b []byte) (any, api.Errno) {
	if len(b) < 2 {
		return api.Info{}, api.ErrForm
	}
	i := api.Info{Kind: at16(b, 0)}
	text := string(b[2:])
	switch {
	case i.Kind == 0 && len(b) == 12:
		i.Size, i.Flags = at64(b, 2), at16(b, 10)
	case (i.Kind == 1 || i.Kind == 2) && isText(text):
		i.Text = text
	case i.Kind == 3 && len(b) == 14:
		i.Min, i.Pref, i.Max = at32(b, 2), at32(b, 6), at32(b, 10)
	case i.Kind > 3:
		i.Data = b[2:]
	default:
		return api.Info{}, api.ErrForm
	}
	return i, api.OK
}

func plainInfoRequest(b []byte) (any, api.Errno) {
	name, at := plainText(b, 0)
	switch {
	case at < 0 || len(b)-at < 2:
		return api.InfoRequest{}, api.ErrForm
	case at16(b, at) > 64:
		return api.InfoRequest{}, api.ErrMany
	case len(b) != at+2+2*int(at16(b, at)):
		return api.InfoRequest{}, api.ErrForm
	}
	r := api.InfoRequest{Name: name}
	for at += 2; at < len(b); at += 2 {
		r.Infos = append(r.Infos, at16(b, at))
	}
	return r, api.OK
}

func plainMetaRequest(b []byte) (any, api.Errno) {
	name, at := plainText(b, 0)
	switch {
	case at < 0 || len(b)-at < 4:
		return api.MetaRequest{}, api.ErrForm
	case at32(b, at) > 16:
		return api.MetaRequest{}, api.ErrMany
	}
	r := api.MetaRequest{Name: name}
	count := at32(b, at)
	at += 4
	for range count {
		var query string
		query, at = plainText(b, at)
		r.Queries = append(r.Queries, query)
	}
	if at != len(b) {
		return api.MetaRequest{}, api.ErrForm
	}
	return r, api.OK
}

func plainMeta(b []byte) (any, api.Errno) {
	if len(b) < 4 || !isText(string(b[4:])) {
		return api.Meta{}, api.ErrForm
	}
	return api.Meta{ID: at32(b, 0), Name: string(b[4:])}, api.OK
}

func plainServer(b []byte) (any, api.Errno) {
	name, at := plainText(b, 0)
	if at < 0 {
		return api.ServerItem{}, api.ErrForm
	}
	return api.ServerItem{Name: name, Rest: b[at:]}, api.OK
}

func plainStatus(wide bool) func(b []byte) (any, api.Errno) {
	return func(b []byte) (any, api.Errno) {
		head, size := 4, 8
		if wide {
			head, size = 8, 16
		}
		if len(b) <= head || (len(b)-head)%size != 0 || wide && int(at32(b, 4)) != (len(b)-head)/size {
			return api.StatusBody{}, api.ErrForm
		}
		s := api.StatusBody{Context: at32(b, 0)}
		for at := head; at < len(b); at += size {
			r := api.StatusRun{Len: at64(append(make([]byte, 8), b[at:at+size/2]...), size/2), Flags: at64(append(make([]byte, 8), b[at+size/2:at+size]...), size/2)}
			s.Runs = append(s.Runs, r)
		}
		return s, api.OK
	}
}

func plainError(placed bool) func(b []byte) (any, api.Errno) {
	return func(b []byte) (any, api.Errno) {
		tail := 0
		if placed {
			tail = 8
		}
		if len(b) < 6 || len(b) != 6+int(at16(b, 4))+tail || !isText(string(b[6:len(b)-tail])) {
			return api.ErrorBody{}, api.ErrForm
		}
		e := api.ErrorBody{Code: at32(b, 0), Text: string(b[6 : len(b)-tail]), Placed: placed}
		if placed {
			e.At = at64(b, len(b)-8)
		}
		return e, api.OK
	}
}

func plainData(b []byte) (any, api.Errno) {
	if len(b) < 9 {
		return api.DataBody{}, api.ErrForm
	}
	return api.DataBody{Off: at64(b, 0), Data: b[8:]}, api.OK
}

func plainHole(b []byte) (any, api.Errno) {
	if len(b) != 12 {
		return api.HoleBody{}, api.ErrForm
	}
	return api.HoleBody{Off: at64(b, 0), Len: at32(b, 8)}, api.OK
}

// wantPlain unpacks b, and packs again what came of it.
func wantPlain(t *testing.T, c content, b []byte) {
	t.Helper()
	wanted, wantE := c.plain(b)
	got, e := c.unpack(b)
	if e != wantE || !same(got, wanted) {
		t.Errorf("Unpack %s of %s: %s, error %d, want %s, error %d", c.name, short(b), short(got), e, short(wanted), wantE)
	}
	if e != api.OK {
		return
	}
	if again, e := c.pack(got); e != api.OK || string(again) != string(b) {
		t.Errorf("Unpack %s of %s: packed again: %s, error %d", c.name, short(b), short(again), e)
	}
}

// P8.6, P8.8: all rows of up to seven bytes out of a few.
func TestUnpackOfEveryRow(t *testing.T) {
	values := []byte{0, 1, 3, 'a', 0xff}
	for _, c := range contents() {
		for size := 0; size <= 7; size++ {
			b := make([]byte, size)
			for {
				wantPlain(t, c, b)
				at := 0
				for at < size && b[at] == values[len(values)-1] {
					b[at] = values[0]
					at++
				}
				if at == size {
					break
				}
				b[at] = values[slices.Index(values, b[at])+1]
			}
		}
	}
}

// P8.6, P8.8: samples with a byte changed, cut, doubled, put in; and thrown bytes.
func TestUnpackOfThrownRows(t *testing.T) {
	d := dice(8)
	for _, c := range contents() {
		for range 3000 {
			b := slices.Clone(pick(&d, c.samples...).bytes)
			b = b[:min(len(b), 60)]
			for range d.below(4) {
				b = d.damage(b)
			}
			wantPlain(t, c, b)
		}
	}
}

// damage changes a row of bytes in one place.
func (d *dice) damage(b []byte) []byte {
	at := d.below(len(b) + 1)
	near := min(at, 10) // lengths and magics stand there
	switch d.below(6) {
	case 0:
		return b[:at]
	case 1:
		return slices.Insert(slices.Clone(b), at, d.bytes(1+d.below(3))...)
	case 2:
		return append(slices.Clone(b), d.bytes(1+d.below(20))...)
	case 3:
		return slices.Delete(slices.Clone(b), min(near, len(b)), min(near+1, len(b)))
	}
	b = slices.Clone(b)
	if near < len(b) {
		b[near] += pick(d, byte(1), 255, 64, byte(d.below(256)))
	}
	return b
}

// A plainForm is what the chapter's table says of a kind of message: its magics as bytes; where in the head its length stands, and of how many bytes.
type plainForm struct {
	magic    []byte
	head     int
	lengthAt int // 0: it tells none
	eight    bool
	zeros    bool
	pays     func(b []byte) bool // nil: always
	message  func(head, data []byte, long bool) any
}

func plainForms() map[string]plainForm {
	plainRequest := func(extended bool) func(head, data []byte, long bool) any {
		return func(h, data []byte, _ bool) any {
			r := api.Request{Flags: at16(h, 4), Type: at16(h, 6), Cookie: at64(h, 8), Offset: at64(h, 16), Data: data}
			if extended {
				r.Length = at64(h, 24)
			} else {
				r.Length = uint64(at32(h, 24))
			}
			return r
		}
	}
	return map[string]plainForm{
		"Greeting":            {magic: lay(api.MagicInit, api.MagicOption), head: 18, message: func(h, _ []byte, _ bool) any { return api.Greeting{Flags: at16(h, 16)} }},
		"Flags":               {head: 4, message: func(h, _ []byte, _ bool) any { return at32(h, 0) }},
		"Export":              {head: 10, message: func(h, _ []byte, _ bool) any { return api.ExportReply{Size: at64(h, 0), Flags: at16(h, 8)} }},
		"Export, with zeroes": {head: 134, zeros: true, message: func(h, _ []byte, _ bool) any { return api.ExportReply{Size: at64(h, 0), Flags: at16(h, 8)} }},
		"Simple":              {magic: lay(api.MagicSimple), head: 16, message: func(h, _ []byte, _ bool) any { return api.SimpleReply{Code: at32(h, 4), Cookie: at64(h, 8)} }},
		"Option": {magic: lay(api.MagicOption), head: 16, lengthAt: 12, message: func(h, data []byte, long bool) any {
			return api.Option{Code: at32(h, 8), Len: at32(h, 12), Long: long, Data: data}
		}},
		"Reply": {magic: lay(api.MagicReply), head: 20, lengthAt: 16, message: func(h, data []byte, _ bool) any {
			return api.OptionReply{Option: at32(h, 8), Kind: at32(h, 12), Data: data}
		}},
		"Request":           {magic: lay(api.MagicRequest), head: 28, lengthAt: 24, pays: func(h []byte) bool { return at16(h, 6) == 1 }, message: plainRequest(false)},
		"Request, extended": {magic: lay(api.MagicRequest64), head: 32, lengthAt: 24, eight: true, pays: func(h []byte) bool { return at16(h, 4)>>5&1 == 1 }, message: plainRequest(true)},
		"Chunk": {magic: lay(api.MagicChunk), head: 20, lengthAt: 16, message: func(h, data []byte, _ bool) any {
			return api.Chunk{Flags: at16(h, 4), Type: at16(h, 6), Cookie: at64(h, 8), Data: data}
		}},
		"Chunk, extended": {magic: lay(api.MagicChunk64), head: 32, lengthAt: 24, eight: true, message: func(h, data []byte, _ bool) any {
			return api.Chunk{Flags: at16(h, 4), Type: at16(h, 6), Cookie: at64(h, 8), Off: at64(h, 16), Data: data}
		}},
	}
}

// length is how many bytes the head says that Data has.
func (f plainForm) length(h []byte) uint64 {
	switch {
	case f.lengthAt == 0 || f.pays != nil && !f.pays(h):
		return 0
	case f.eight:
		return at64(h, f.lengthAt)
	}
	return uint64(at32(h, f.lengthAt))
}

func (f plainForm) decode(zero any, b []byte, most uint32) (any, int, api.Errno) {
	if len(b) < f.head {
		return zero, f.head, api.ErrShort
	}
	h, rest := b[:f.head], b[f.head:]
	length := f.length(h)
	switch {
	case !strings.HasPrefix(string(h), string(f.magic)):
		return zero, 0, api.ErrMagic
	case f.zeros && strings.Trim(string(h[10:]), "\x00") != "":
		return zero, 0, api.ErrForm
	case length > uint64(most):
		return f.message(h, nil, true), f.head, api.ErrLong
	case length > uint64(len(rest)):
		return zero, f.head + int(length), api.ErrShort
	}
	return f.message(h, rest[:length], false), f.head + int(length), api.OK
}

// P8.3, P8.4, P8.8: thrown heads, with the right magic mostly, cut and damaged, against the chapter's table; what is taken gives its bytes again.
func TestDecodeOfThrownRows(t *testing.T) {
	d := dice(9)
	for _, f := range forms() {
		plain := plainForms()[f.name]
		counts := map[api.Errno]int{}
		for range 20000 {
			b := d.row(plain)
			most := uint32(pick(&d, 0, 1, 3, 8, 100, d.u64()))
			got, n, e := f.decode(b, most)
			wanted, wantN, wantE := plain.decode(f.zero, b, most)
			counts[e]++
			if n != wantN || e != wantE || !same(got, wanted) {
				t.Errorf("Decode %s of %s, most %d: %s, %d, error %d, want %s, %d, error %d", f.name, short(b), most, short(got), n, e, short(wanted), wantN, wantE)
			}
			if e != api.OK {
				continue
			}
			if again, e := f.encode(got); e != api.OK || string(again) != string(b[:n]) {
				t.Errorf("Decode %s of %s: encoded again: %s, error %d", f.name, short(b), short(again), e)
			}
		}
		if counts[api.OK] < 500 || f.bare != nil && (counts[api.ErrLong] < 500 || counts[api.ErrShort] < 500) || f.magic > 0 && counts[api.ErrMagic] < 100 {
			t.Errorf("%s: the throws came to %v", f.name, counts)
		}
	}
}

// row throws bytes that may begin with a message.
func (d *dice) row(f plainForm) []byte {
	b := append(slices.Clone(f.magic), d.bytes(f.head-len(f.magic)+d.below(20))...)
	if f.zeros && d.bool() {
		clear(b[10:])
	}
	if f.lengthAt == 0 {
		return d.maybeDamaged(b)
	}
	if f.pays != nil && d.bool() {
		b[5], b[6], b[7] = b[5]|32, 0, 1
	}
	length := d.u64()
	if d.bool() {
		length = uint64(d.below(25))
	}
	if f.eight {
		binary.BigEndian.PutUint64(b[f.lengthAt:], length)
	} else {
		binary.BigEndian.PutUint32(b[f.lengthAt:], uint32(length))
	}
	return d.maybeDamaged(b)
}

func (d *dice) maybeDamaged(b []byte) []byte {
	if d.below(3) == 0 {
		return d.damage(b)
	}
	return b
}

// P8.9: thrown rows in pieces.
func TestPieceByPieceOfThrownRows(t *testing.T) {
	d := dice(10)
	for _, f := range forms() {
		for range 300 {
			b := d.row(plainForms()[f.name])
			wantPieces(t, fmt.Sprintf("Decode %s of %s", f.name, short(b)), b, f.decode, uint32(pick(&d, 0, 3, 8, 100, d.u64())))
		}
	}
}
