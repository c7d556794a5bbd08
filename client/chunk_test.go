package client_test

import (
	"fmt"
	"slices"
	"testing"

	"spindle/api"
)

// dataAt and holeAt are chunks of the read with cookie 1 that begins at from.
func (f form) dataAt(flags uint16, from, off uint64, data ...byte) []byte {
	return f.chunk(flags, api.ChunkData, 1, from, dataBody(off, data...)...)
}

func (f form) holeAt(flags uint16, from, off uint64, n uint32) []byte {
	return f.chunk(flags, api.ChunkHole, 1, from, holeBody(off, n)...)
}

func chunked() []form { return []form{inChunks, extended} }

// P16.6: a read that is told in every way of cutting five bytes into parts, in every order, each part data or a hole.
func TestReadInParts(t *testing.T) {
	const from, size = 100, 5
	for _, f := range chunked() {
		for cuts := range 1 << (size - 1) {
			var ends []int
			for i := range size {
				if i == size-1 || cuts>>i&1 == 1 {
					ends = append(ends, i+1)
				}
			}
			for holes := range 1 << len(ends) {
				for _, order := range orders(len(ends)) {
					wantParts(t, f, from, ends, holes, order)
				}
			}
		}
	}
}

// orders are all orders of n things.
func orders(n int) [][]int {
	if n == 0 {
		return [][]int{nil}
	}
	var out [][]int
	for _, o := range orders(n - 1) {
		for at := range n {
			out = append(out, slices.Insert(slices.Clone(o), at, n-1))
		}
	}
	return out
}

// wantParts lets a read be told in parts, with these ends; bits of holes say which are holes.
func wantParts(t *testing.T, f form, from uint64, ends []int, holes int, order []int) {
	t.Helper()
	size := ends[len(ends)-1]
	what := fmt.Sprintf("%s: ends %v, holes %b, order %v", f.name, ends, holes, order)
	c := waiting(t, f, read(from, uint64(size)))
	wanted := many(size)
	var rows [][]byte
	for i, part := range order {
		lo, hi := 0, ends[part]
		if part > 0 {
			lo = ends[part-1]
		}
		flags := uint16(0)
		if i == len(order)-1 {
			flags = 1
		}
		if holes>>part&1 == 1 {
			rows = append(rows, f.holeAt(flags, from, from+uint64(lo), uint32(hi-lo)))
			copy(wanted[lo:hi], make([]byte, size))
		} else {
			rows = append(rows, f.dataAt(flags, from, from+uint64(lo), wanted[lo:hi]...))
		}
	}
	wantEvents(t, what, c.In(stepped(t, what, c, rows...)), done(1, 0, wanted...))
	wantOutstanding(t, what, c)
}

// P16.6: the last chunk of a read may tell nothing, if all was told.
func TestReadEndsByNone(t *testing.T) {
	for _, f := range chunked() {
		c := waiting(t, f, read(8, 4))
		last := stepped(t, f.name, c, f.dataAt(0, 8, 10, 3, 4), f.holeAt(0, 8, 8, 2), f.chunk(1, 0, 1, 8))
		wantEvents(t, f.name, c.In(last), done(1, 0, 0, 0, 3, 4))
		c = waiting(t, f, read(8, 0))
		wantEvents(t, f.name+": a read of no byte", c.In(f.chunk(1, 0, 1, 8)), done(1, 0))
		for _, b := range [][]byte{f.dataAt(1, 8, 8, 1), f.holeAt(1, 8, 8, 1), f.holeAt(1, 8, 8, 0)} {
			wantBreak(t, f.name+": of a read of no byte", waiting(t, f, read(8, 0)), b)
		}
	}
}

// P16.6: every pair of parts of a small read: a byte that is told twice, one that was not asked for, or one too few breaks it.
func TestReadOfTwoParts(t *testing.T) {
	const from, size = 8, 4
	for _, f := range chunked() {
		for hole := range 4 {
			for lo := range 7 {
				for n := range 5 {
					for lo2 := range 7 {
						for n2 := range 5 {
							wantTwoParts(t, f, hole, from, size, part{6 + lo, n}, part{6 + lo2, n2})
						}
					}
				}
			}
		}
	}
}

type part struct{ off, len int }

// wantTwoParts lets two parts come, the second one as the last; bits of holes say which are holes.
func wantTwoParts(t *testing.T, f form, holes, from, size int, parts ...part) {
	t.Helper()
	what := fmt.Sprintf("%s: parts %v, holes %b", f.name, parts, holes)
	c := waiting(t, f, read(uint64(from), uint64(size)))
	bytes := make([]int, size)
	for i, p := range parts {
		flags := uint16(i)
		b := f.dataAt(flags, uint64(from), uint64(p.off), many(p.len)...)
		if holes>>i&1 == 1 {
			b = f.holeAt(flags, uint64(from), uint64(p.off), uint32(p.len))
		}
		ok := p.len > 0 && p.off >= from && p.off+p.len <= from+size
		for at := p.off; ok && at < p.off+p.len; at++ {
			bytes[at-from]++
		}
		if !ok || slices.Contains(bytes, 2) || flags == 1 && slices.Contains(bytes, 0) {
			wantBroke(t, what, c.In(b), c.Phase())
			return
		}
		heard := c.In(b)
		if want(t, what, len(heard), i); i == 1 && len(heard) == 1 {
			want(t, what, len(heard[0].Data), size)
		}
	}
}

// wantBroke looks that just now a client broke.
func wantBroke(t *testing.T, what string, heard []api.Event, phase api.ClientPhase) {
	t.Helper()
	wantEvents(t, what, heard, api.Event{Kind: api.EvBroken})
	want(t, what, phase, api.ClientBroken)
}

// P16.6: bytes that were not asked for, at the ends of what numbers can tell: nothing wraps.
func TestReadOutside(t *testing.T) {
	for _, f := range chunked() {
		for _, q := range []api.Request{read(8, 4), read(0, 4), read(max64-3, 4), read(max64-1, 4), read(1<<32, 4), read(max64, 2)} {
			for _, off := range []uint64{q.Offset - 1, q.Offset + 4, q.Offset + 1<<32, q.Offset - 1<<32, 0, 1, 2, max64, max64 - 4, 1 << 63} {
				outside := off < q.Offset || off-q.Offset >= q.Length
				if !outside {
					continue
				}
				what := fmt.Sprintf("%s: read %d, %d: byte %d", f.name, q.Offset, q.Length, off)
				wantBreak(t, what, waiting(t, f, q), f.dataAt(0, q.Offset, off, 1))
				wantBreak(t, what, waiting(t, f, q), f.holeAt(0, q.Offset, off, 1))
			}
			for _, n := range []uint32{5, 1 << 31, max32} {
				wantBreak(t, "too long a hole", waiting(t, f, q), f.holeAt(0, q.Offset, q.Offset, n))
			}
			wantBreak(t, "too many data", waiting(t, f, q), f.dataAt(0, q.Offset, q.Offset, many(5)...))
			wantBreak(t, "an empty hole", waiting(t, f, q), f.holeAt(0, q.Offset, q.Offset, 0))
			wantBreak(t, "an empty hole as the last", waiting(t, f, q), f.holeAt(1, q.Offset, q.Offset, 0))
		}
	}
}

// P16.6: bodies that cannot be unpacked.
func TestReadBodies(t *testing.T) {
	for _, f := range chunked() {
		for _, b := range [][]byte{nil, lay(uint64(8))[:7], lay(uint64(8))} {
			wantBreak(t, "data", waiting(t, f, read(8, 4)), f.chunk(0, api.ChunkData, 1, 8, b...))
		}
		for _, b := range [][]byte{nil, holeBody(8, 4)[:11], lay(holeBody(8, 4), "x"), lay(uint64(8))} {
			wantBreak(t, "a hole", waiting(t, f, read(8, 4)), f.chunk(0, api.ChunkHole, 1, 8, b...))
		}
	}
}

// P16.6: with FlagDF one ChunkData tells all; errors may stand ahead of it and behind, and ChunkNone as the last.
func TestReadInOnePiece(t *testing.T) {
	for _, f := range chunked() {
		q := read(8, 4, api.FlagDF)
		c := waiting(t, f, q)
		wantEvents(t, f.name, c.In(f.dataAt(1, 8, 8, many(4)...)), done(1, 0, many(4)...))
		c = waiting(t, f, q)
		last := stepped(t, f.name, c, f.dataAt(0, 8, 8, many(4)...), f.chunk(1, 0, 1, 8))
		wantEvents(t, f.name, c.In(last), done(1, 0, many(4)...))
		wantBreak(t, "a hole", waiting(t, f, q), f.holeAt(0, 8, 8, 4))
		wantBreak(t, "a hole of one byte", waiting(t, f, q), f.holeAt(1, 8, 9, 1))
		for first := range 3 {
			c = waiting(t, f, q)
			wantEvents(t, "a part", c.In(f.dataAt(0, 8, 8+uint64(first), many(1)...)))
			wantBreak(t, "another part", c, f.dataAt(0, 8, 9+uint64(first), many(1)...))
		}
		c = waiting(t, f, q)
		last = stepped(t, f.name, c, f.dataAt(0, 8, 8, 7), f.chunk(0, api.ChunkError, 1, 8, errorBody(6, "")...), f.chunk(1, 0, 1, 8))
		wantEvents(t, "a part and an error", c.In(last), done(1, 6))
		c = waiting(t, f, q)
		last = stepped(t, f.name, c, f.chunk(0, api.ChunkError, 1, 8, errorBody(6, "")...), f.dataAt(1, 8, 8, 7))
		wantEvents(t, "an error and a part", c.In(last), done(1, 6))
		wantBreak(t, "a byte too few", waiting(t, f, q), f.dataAt(1, 8, 8, many(3)...))
	}
}

// P16.6: a read with other flags is told in parts.
func TestReadWithOtherFlags(t *testing.T) {
	for bit := range 16 {
		if 1<<bit == api.FlagDF || 1<<bit == api.FlagPayload {
			continue
		}
		c := waiting(t, inChunks, read(8, 4, 1<<bit))
		last := stepped(t, "parts", c, inChunks.holeAt(0, 8, 8, 2), inChunks.dataAt(1, 8, 10, 3, 4))
		wantEvents(t, fmt.Sprint("flag ", 1<<bit), c.In(last), done(1, 0, 0, 0, 3, 4))
	}
}

// P16.6: errors: the first Code counts, whatever is told ahead and behind; then nothing need be whole, and no data are told.
func TestErrors(t *testing.T) {
	for _, f := range chunked() {
		one, two := f.chunk(0, api.ChunkError, 1, 16, errorBody(5, "why")...), f.chunk(0, api.ChunkErrorAt, 1, 16, errorAtBody(9, "", 19)...)
		end := f.chunk(1, 0, 1, 16)
		for _, kind := range commands() {
			c := waiting(t, f, some(kind))
			wantEvents(t, f.name, c.In(stepped(t, f.name, c, one, two, end)), done(1, 5))
			c = waiting(t, f, some(kind))
			wantEvents(t, f.name, c.In(stepped(t, f.name, c, two, one, end)), done(1, 9))
			c = waiting(t, f, some(kind))
			wantEvents(t, f.name, c.In(stepped(t, f.name, c, two, f.chunk(1, api.ChunkError, 1, 16, errorBody(max32, "")...))), done(1, 9))
		}
		c := waiting(t, f, some(0))
		wantEvents(t, f.name, c.In(stepped(t, f.name, c, f.dataAt(0, 16, 17, 1), one, f.holeAt(0, 16, 16, 1), f.dataAt(1, 16, 19, 2))), done(1, 5))
		c = waiting(t, f, some(0))
		wantEvents(t, f.name, c.In(stepped(t, f.name, c, one, f.dataAt(1, 16, 16, many(4)...))), done(1, 5))
		c = waiting(t, f, some(7))
		wantEvents(t, f.name, c.In(stepped(t, f.name, c, f.chunk(0, f.statusKind(), 1, 16, statusBody(f.extended, 7, run{4, 0})...), one, end)), done(1, 5))
		for _, b := range [][]byte{f.dataAt(0, 16, 15, 1), f.holeAt(0, 16, 16, 5), f.holeAt(0, 16, 16, 0), f.dataAt(0, 16, 17, 1), f.chunk(0, 0, 1, 16)} {
			c = waiting(t, f, some(0))
			c.In(f.dataAt(0, 16, 17, 1))
			c.In(one)
			wantBreak(t, "what may not be told behind an error neither", c, b)
		}
	}
}

// P16.6: errors with a place: it is a byte that was asked for; and bodies that may not be.
func TestErrorPlaces(t *testing.T) {
	for _, f := range chunked() {
		list := []api.Request{read(16, 4), asking(api.CmdTrim, 16, 4), asking(api.CmdStatus, 16, 4), read(max64-3, 4), read(max64, 9), asking(api.CmdFlush, 0, 0), asking(api.CmdZeroes, 0, max32)}
		if f.extended {
			list = append(list, asking(api.CmdZeroes, 0, max64), asking(api.CmdTrim, 5, max64), asking(api.CmdTrim, max64, max64))
		}
		for _, q := range list {
			for _, at := range []uint64{q.Offset, q.Offset + 1, q.Offset + q.Length - 1, q.Offset + q.Length, q.Offset + q.Length + 1, q.Offset - 1, 0, 1, max64, 1 << 32} {
				what := fmt.Sprintf("%s: command %d, %d, %d: at %d", f.name, q.Type, q.Offset, q.Length, at)
				c := waiting(t, f, q)
				b := f.chunk(1, api.ChunkErrorAt, 1, q.Offset, errorAtBody(7, "", at)...)
				if at >= q.Offset && at-q.Offset < q.Length {
					wantEvents(t, what, c.In(b), done(1, 7))
				} else {
					wantBreak(t, what, c, b)
				}
			}
		}
		for flags := range uint16(2) {
			for _, b := range [][]byte{nil, errorBody(0, ""), errorBody(0, "text"), errorBody(5, "")[:5], lay(errorBody(5, ""), "x"), errorBody(5, "\xff"), errorBody(5, "a\x00"), lay(uint32(5), uint16(3), "ab"), errorAtBody(5, "", 16)} {
				wantBreak(t, "an error that is none", waiting(t, f, some(3)), f.chunk(flags, api.ChunkError, 1, 16, b...))
			}
			for _, b := range [][]byte{nil, errorBody(5, ""), errorAtBody(0, "", 16), errorAtBody(5, "", 16)[:13], lay(errorAtBody(5, "", 16), "x"), errorAtBody(5, "\xff", 16), many(7)} {
				wantBreak(t, "an error with a place that is none", waiting(t, f, some(3)), f.chunk(flags, api.ChunkErrorAt, 1, 16, b...))
			}
		}
	}
}

// P16.6: chunks of several requests between one another, each gathered for itself.
func TestReadsBetweenOneAnother(t *testing.T) {
	for _, f := range chunked() {
		c := working(t, f)
		for range 2 {
			mustRequest(t, c, read(8, 4))
		}
		at := func(cookie uint64, flags uint16, off uint64, data ...byte) []byte {
			return f.chunk(flags, api.ChunkData, cookie, 8, dataBody(off, data...)...)
		}
		for _, b := range [][]byte{at(1, 0, 8, 1, 2), at(2, 0, 10, 7, 8), at(1, 0, 11, 4), at(2, 0, 8, 5)} {
			wantEvents(t, f.name, c.In(b))
		}
		wantEvents(t, f.name, c.In(at(2, 1, 9, 6)), done(2, 0, 5, 6, 7, 8))
		wantEvents(t, f.name, c.In(at(1, 1, 10, 3)), done(1, 0, 1, 2, 3, 4))
	}
}

// P16.6: a read of many parts, from its end to its beginning, and from both ends.
func TestReadOfManyParts(t *testing.T) {
	const size = 20000
	for way := range 3 {
		c := waiting(t, inChunks, read(0, size))
		var last []byte
		for i := range size {
			off := []int{i, size - 1 - i, i / 2}[way]
			if way == 2 && i%2 == 1 {
				off = size - 1 - i/2
			}
			flags := uint16(0)
			if i == size-1 {
				flags = 1
			}
			last = inChunks.dataAt(flags, 0, uint64(off), byte(off))
			if flags == 0 && len(c.In(last)) != 0 {
				t.Fatal("something is heard ahead of the end")
			}
		}
		wanted := make([]byte, size)
		for i := range wanted {
			wanted[i] = byte(i)
		}
		wantEvents(t, "many parts", c.In(last), done(1, 0, wanted...))
	}
}
