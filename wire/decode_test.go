package wire_test

import (
	"fmt"
	"slices"
	"testing"

	"spindle/api"
	"spindle/wire"
)

// P8.3, P8.4, P8.8: every message comes back of its bytes, whatever stands behind, and its bytes of it.
func TestThereAndBack(t *testing.T) {
	for _, f := range forms() {
		for i, s := range f.samples {
			for _, tail := range behind() {
				for _, most := range []uint32{uint32(len(s.bytes) - f.head), uint32(len(s.bytes)), max32} {
					m, n, e := f.decode(append(slices.Clone(s.bytes), tail...), most)
					what := fmt.Sprintf("Decode %s %d, most %d, %d bytes behind", f.name, i, most, len(tail))
					wantTold(t, what, m, n, e, s.message, len(s.bytes), api.OK)
					b, e := f.encode(m)
					wantErr(t, what+", encoded again", e, api.OK)
					wantBytes(t, what+", encoded again", b, s.bytes)
				}
			}
		}
	}
}

// P8.3, P8.4, P8.9: every beginning of a message's bytes wants the head, or else all of it.
func TestShort(t *testing.T) {
	for _, f := range forms() {
		for i, s := range f.samples {
			for n := range s.bytes {
				if n > f.head+300 && n < len(s.bytes)-3 {
					continue
				}
				m, wanted, e := f.decode(s.bytes[:n], max32)
				least := len(s.bytes)
				if n < f.head {
					least = f.head
				}
				wantTold(t, fmt.Sprintf("Decode %s %d of %d bytes", f.name, i, n), m, wanted, e, f.zero, least, api.ErrShort)
			}
		}
		m, n, e := f.decode(nil, 0)
		wantTold(t, "Decode "+f.name+" of nil", m, n, e, f.zero, f.head, api.ErrShort)
	}
}

// P8.3, P8.4: a magic with any one byte another; ahead of it only the head's size is looked at.
func TestMagic(t *testing.T) {
	for _, f := range forms() {
		for _, s := range f.samples {
			for i := range f.magic {
				for change := 1; change < 256; change++ {
					if change&(change-1) != 0 && len(s.bytes) > f.head {
						continue // one bit each will do for long ones
					}
					b := slices.Clone(s.bytes[:min(len(s.bytes), f.head+300)])
					b[i] ^= byte(change)
					what := fmt.Sprintf("Decode %s with byte %d of its magic another", f.name, i)
					for _, most := range []uint32{0, max32} {
						m, n, e := f.decode(b, most)
						wantTold(t, what, m, n, e, f.zero, 0, api.ErrMagic)
						m, n, e = f.decode(b[:f.head], most)
						wantTold(t, what+", the head alone", m, n, e, f.zero, 0, api.ErrMagic)
						m, n, e = f.decode(b[:f.head-1], most)
						wantTold(t, what+", less than the head", m, n, e, f.zero, f.head, api.ErrShort)
					}
				}
			}
		}
	}
}

// P8.3, P8.4: the magic of one form is none of another, nor is it all 0.
func TestMagicsOfOthers(t *testing.T) {
	for _, f := range forms() {
		for _, other := range forms() {
			if f.magic == 0 || other.magic == 0 || f.name == other.name {
				continue
			}
			b := append(slices.Clone(other.samples[0].bytes), make([]byte, 200)...)
			m, n, e := f.decode(b, max32)
			wantTold(t, "Decode "+f.name+" of a "+other.name, m, n, e, f.zero, 0, api.ErrMagic)
		}
		m, n, e := f.decode(make([]byte, 200), max32)
		if f.magic > 0 {
			wantTold(t, "Decode "+f.name+" of zeros", m, n, e, f.zero, 0, api.ErrMagic)
		}
	}
}

// P8.3: both magics of a greeting stand at their own places.
func TestMagicsOfGreeting(t *testing.T) {
	for _, b := range [][]byte{lay("IHAVEOPT", "NBDMAGIC", uint16(3)), lay("NBDMAGIC", "NBDMAGIC", uint16(3)), lay("IHAVEOPT", "IHAVEOPT", uint16(3))} {
		g, n, e := wire.DecodeGreeting(b)
		wantTold(t, "a greeting of other magics", g, n, e, api.Greeting{}, 0, api.ErrMagic)
	}
}

// P8.3: one of the 124 bytes of an Export is not 0; behind them, and without zeroes, that is nothing.
func TestExportZeroes(t *testing.T) {
	head := lay(uint64(0x0123456789abcdef), uint16(0x1234))
	message := api.ExportReply{Size: 0x0123456789abcdef, Flags: 0x1234}
	for i := range 124 {
		for _, v := range []byte{1, 0x80, 0xff} {
			b := append(slices.Clone(head), make([]byte, 130)...)
			b[10+i] = v
			m, n, e := wire.DecodeExport(b, true)
			wantTold(t, fmt.Sprintf("byte %d is %d", i, v), m, n, e, api.ExportReply{}, 0, api.ErrForm)
			m, n, e = wire.DecodeExport(b[:134], true)
			wantTold(t, fmt.Sprintf("byte %d is %d, nothing behind", i, v), m, n, e, api.ExportReply{}, 0, api.ErrForm)
			m, n, e = wire.DecodeExport(b[:133], true)
			wantTold(t, fmt.Sprintf("byte %d is %d, too short", i, v), m, n, e, api.ExportReply{}, 134, api.ErrShort)
			m, n, e = wire.DecodeExport(b, false)
			wantTold(t, fmt.Sprintf("byte %d is %d, without zeroes", i, v), m, n, e, message, 10, api.OK)
		}
	}
	b := append(slices.Clone(head), make([]byte, 130)...)
	for i := 134; i < len(b); i++ {
		b[i] = 9
	}
	m, n, e := wire.DecodeExport(b, true)
	wantTold(t, "bytes behind the 124", m, n, e, message, 134, api.OK)
}

// P8.4: a length above most: the head is told, whatever of the Data is there.
func TestLong(t *testing.T) {
	for _, f := range measured() {
		for i, s := range f.samples {
			length := len(s.bytes) - f.head
			if length == 0 {
				continue
			}
			for _, most := range []int{0, 1, length / 2, length - 2, length - 1} {
				if most < 0 || most >= length {
					continue
				}
				for _, n := range []int{f.head, f.head + 1, f.head + most, len(s.bytes) - 1, len(s.bytes)} {
					m, told, e := f.decode(s.bytes[:n], uint32(most))
					what := fmt.Sprintf("Decode %s %d of %d bytes, most %d", f.name, i, n, most)
					wantTold(t, what, m, told, e, f.bare(s.message), f.head, api.ErrLong)
				}
				m, told, e := f.decode(s.bytes[:f.head-1], uint32(most))
				wantTold(t, "Decode "+f.name+" of less than the head", m, told, e, f.zero, f.head, api.ErrShort)
			}
			m, n, e := f.decode(s.bytes[:f.head], uint32(length))
			wantTold(t, fmt.Sprintf("Decode %s, most its length %d", f.name, length), m, n, e, f.zero, len(s.bytes), api.ErrShort)
		}
	}
}

// A promise is a head that tells a length of which not a byte is there.
type promise struct {
	name   string
	head   []byte
	decode func(b []byte, most uint32) (any, int, api.Errno)
	zero   any
	bare   any
}

// promises tell this length; in four bytes, if it is below 2^32, and in eight.
func promises(length uint64) []promise {
	q64 := api.Request{Flags: 33, Type: 7, Cookie: 2, Offset: 3, Length: length}
	c64 := api.Chunk{Flags: 1, Type: 2, Cookie: 3, Off: 4}
	out := []promise{
		{"Request, extended", requestBytes(q64, true), request(true).decode, api.Request{}, q64},
		{"Chunk, extended", lay(uint32(0x6e8a278c), c64.Flags, c64.Type, c64.Cookie, c64.Off, length), chunk(true).decode, api.Chunk{}, c64},
	}
	if length > max32 {
		return out
	}
	o := api.Option{Code: 1, Len: uint32(length), Long: true}
	r := api.OptionReply{Option: 1, Kind: 2}
	q := api.Request{Flags: 1, Type: 1, Cookie: 2, Offset: 3, Length: length}
	c := api.Chunk{Flags: 1, Type: 2, Cookie: 3}
	return append(out,
		promise{"Option", lay("IHAVEOPT", o.Code, o.Len), option().decode, api.Option{}, o},
		promise{"Reply", lay(uint64(0x0003e889045565a9), r.Option, r.Kind, uint32(length)), optionReply().decode, api.OptionReply{}, r},
		promise{"Request", requestBytes(q, false), request(false).decode, api.Request{}, q},
		promise{"Chunk", lay(uint32(0x668e33ef), c.Flags, c.Type, c.Cookie, uint32(length)), chunk(false).decode, api.Chunk{}, c})
}

// P8.1, P8.4: lengths up to the greatest, of which nothing is there, at most, one above it, and far above.
func TestPromisedLengths(t *testing.T) {
	lengths := []uint64{1, 2, 511, 512, 65535, 65536, 65537, 1 << 20, 1<<31 - 1, 1 << 31, 1<<31 + 1, max32 - 32, max32 - 31, max32 - 28, max32 - 20, max32 - 16, max32 - 1, max32,
		max32 + 1, max32 + 2, 1<<40 + 3, 1<<63 - 33, 1<<63 - 32, 1<<63 - 1, 1 << 63, 1<<63 + 1, max64 - 33, max64 - 32, max64 - 31, max64 - 1, max64}
	for _, length := range lengths {
		for _, p := range promises(length) {
			for _, most := range []uint64{0, 1, 512, 65536, length - 1, length, length + 1, max32 - 1, max32} {
				for _, tail := range []int{0, 1} {
					if most > max32 || tail >= int(min(length, 2)) {
						continue
					}
					b := append(slices.Clone(p.head), make([]byte, tail)...)
					m, n, e := p.decode(b, uint32(most))
					what := fmt.Sprintf("Decode %s of length %d, most %d", p.name, length, most)
					if length > most {
						wantTold(t, what, m, n, e, p.bare, len(p.head), api.ErrLong)
						continue
					}
					wantTold(t, what, m, n, e, p.zero, len(p.head)+int(length), api.ErrShort)
				}
			}
		}
	}
}

// P8.4: a request without a payload tells its length whatever most is.
func TestLengthsWithoutPayload(t *testing.T) {
	for _, extended := range []bool{false, true} {
		for _, r := range unpaid(extended) {
			for _, most := range []uint32{0, 1, 512, max32} {
				for _, tail := range behind() {
					b := requestBytes(r, extended)
					m, n, e := wire.DecodeRequest(append(slices.Clone(b), tail...), most, extended)
					wantTold(t, "DecodeRequest of "+short(r), m, n, e, r, len(b), api.OK)
				}
			}
		}
	}
}

// P8.9: what a decoder answers to each beginning of a row of bytes, one behind the other: ErrShort with an n that never falls and is never just reached, and then one answer for good.
func wantPieces(t *testing.T, what string, b []byte, decode func(b []byte, most uint32) (any, int, api.Errno), most uint32) {
	t.Helper()
	last, settled := 0, ""
	for n := 0; n <= len(b); n++ {
		m, told, e := decode(b[:n:n], most)
		now := fmt.Sprintf("%+v %d %d", m, told, e)
		switch {
		case settled != "" && now != settled:
			t.Errorf("%s: %d bytes: %s, fewer: %s", what, n, now, settled)
			return
		case e == api.ErrShort && (told <= n || told < last || last > n && told != last):
			t.Errorf("%s: %d bytes want %d, fewer want %d", what, n, told, last)
			return
		case e == api.ErrShort:
			last = told
		case settled == "" && last > n:
			t.Errorf("%s: %d bytes do, where %d were wanted", what, n, last)
			return
		default:
			settled = now
		}
	}
}

// P8.9: every beginning of every kind's bytes, right, wrong and too long ones.
func TestPieceByPiece(t *testing.T) {
	for _, f := range forms() {
		for i, s := range f.samples {
			if len(s.bytes) > 1000 {
				continue
			}
			for _, most := range []uint32{0, 1, 2, 255, 256, max32} {
				b := append(slices.Clone(s.bytes), many(40)...)
				wantPieces(t, fmt.Sprint(f.name, i), b, f.decode, most)
				b[0] ^= 1
				wantPieces(t, f.name+", another", b, f.decode, most)
				b[0] ^= 1
				b[f.head-1]++
				wantPieces(t, f.name+", another", b, f.decode, most)
			}
		}
	}
}
