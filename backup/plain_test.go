package backup_test

import (
	"encoding/binary"
	"hash/crc32"
	"math/big"
	"slices"
	"testing"

	"spindle/api"
)

// A plain reading of the chapter, which takes its time: a device is a row of cells, one a byte, and sums are taken in numbers that do not wrap.

const (
	nothing = -1 // an archive has nothing of the byte
	inHole  = -2
)

// cells tells of each byte of a device nothing, inHole, or its value.
type cells []int

func emptyCells(size uint64) cells {
	out := make(cells, size)
	for i := range out {
		out[i] = nothing
	}
	return out
}

func cellsOf(a archive) cells {
	out := emptyCells(a.Size)
	for _, r := range a.Runs {
		for i := range r.Len {
			if r.Hole {
				out[r.Off+i] = inHole
			} else {
				out[r.Off+i] = int(r.Data[i])
			}
		}
	}
	return out
}

// kindOf makes all data alike.
func kindOf(cell int) int { return min(cell, 0) }

// runsOf gives the runs of a row: each as long as may be.
func runsOf(c cells) []run {
	var out []run
	for i, cell := range c {
		switch {
		case cell == nothing:
			continue
		case i == 0 || kindOf(c[i-1]) != kindOf(cell):
			out = append(out, run{Off: uint64(i), Hole: cell == inHole})
		}
		last := &out[len(out)-1]
		last.Len++
		if cell != inHole {
			last.Data = append(last.Data, byte(cell))
		}
	}
	return out
}

// over lays a row over another.
func over(under, top cells) cells {
	out := slices.Clone(under)
	for i, cell := range top {
		if cell != nothing {
			out[i] = cell
		}
	}
	return out
}

func number(n uint64) *big.Int { return new(big.Int).SetUint64(n) }

// endOf is where a run ends, which may be beyond all that 64 bits tell.
func endOf(r run) *big.Int { return new(big.Int).Add(number(r.Off), number(r.Len)) }

// plainMayBe goes through the chapter's conditions (Types).
func plainMayBe(a archive) bool {
	if a.ID == 0 || a.ID == a.Parent || a.Size < 1 || a.Size > most {
		return false
	}
	all := number(0)
	for n, r := range a.Runs {
		all.Add(all, number(r.Len))
		if r.Len < 1 || endOf(r).Cmp(number(a.Size)) > 0 {
			return false
		}
		if r.Hole && len(r.Data) != 0 || !r.Hole && uint64(len(r.Data)) != r.Len {
			return false
		}
		if n == 0 {
			continue
		}
		ahead := a.Runs[n-1]
		apart := number(r.Off).Cmp(endOf(ahead))
		if apart < 0 || apart == 0 && ahead.Hole == r.Hole {
			return false
		}
	}
	return a.Parent != 0 || all.Cmp(number(a.Size)) == 0
}

func plainCheck(a archive) api.Errno {
	if plainMayBe(a) {
		return api.OK
	}
	return api.ErrArchive
}

// plainMake is P25.2.
func plainMake(id, parent uint64, b []byte, l []extent) (archive, api.Errno) {
	if id == 0 || id == parent || len(b) == 0 || len(b) > most {
		return archive{}, api.ErrArg
	}
	end := number(0)
	for _, x := range l {
		if number(x.Off).Cmp(end) != 0 || x.Len < 1 {
			return archive{}, api.ErrDevice
		}
		end.Add(end, number(x.Len))
	}
	if end.Cmp(big.NewInt(int64(len(b)))) != 0 {
		return archive{}, api.ErrDevice
	}
	c := emptyCells(uint64(len(b)))
	for _, x := range l {
		for i := x.Off; i < x.Off+x.Len; i++ {
			switch {
			case x.Hole && b[i] != 0:
				return archive{}, api.ErrDevice
			case parent != 0 && !x.Dirty:
			case x.Hole:
				c[i] = inHole
			default:
				c[i] = int(b[i])
			}
		}
	}
	return archive{ID: id, Parent: parent, Size: uint64(len(b)), Runs: runsOf(c)}, api.OK
}

func castagnoli(b []byte) uint32 { return crc32.Checksum(b, crc32.MakeTable(crc32.Castagnoli)) }

// sealed puts a check sum behind bytes.
func sealed(b []byte) []byte { return binary.BigEndian.AppendUint32(slices.Clone(b), castagnoli(b)) }

// The bytes of a head and of a run's head, by their numbers, with their sums.
func headBytes(id, parent, size, runs uint64) []byte {
	b := []byte{0x53, 0x50, 0x49, 0x4e, 0x41, 0x52, 0x43, 0x31}
	for _, n := range []uint64{id, parent, size, runs} {
		b = binary.BigEndian.AppendUint64(b, n)
	}
	return sealed(b)
}

func runBytes(off, size uint64, kind byte) []byte {
	b := binary.BigEndian.AppendUint64(nil, off)
	b = binary.BigEndian.AppendUint64(b, size)
	return sealed(append(b, kind))
}

// plainEncode is P25.3, of an archive that need not be one that may be.
func plainEncode(a archive) []byte {
	b := headBytes(a.ID, a.Parent, a.Size, uint64(len(a.Runs)))
	for _, r := range a.Runs {
		if r.Hole {
			b = append(b, runBytes(r.Off, r.Len, 0)...)
		} else {
			b = append(b, runBytes(r.Off, r.Len, 1)...)
			b = append(b, sealed(r.Data)...)
		}
	}
	return b
}

// piece cuts a thing of so many bytes and its sum off the front.
func piece(b []byte, size uint64) (out, left []byte, e api.Errno) {
	wanted := new(big.Int).Add(number(size), number(4))
	if big.NewInt(int64(len(b))).Cmp(wanted) < 0 {
		return nil, nil, api.ErrCut
	}
	out, left = b[:size], b[size+4:]
	if binary.BigEndian.Uint32(b[size:]) != castagnoli(out) {
		return nil, nil, api.ErrSeal
	}
	return out, left, api.OK
}

// plainDecode is P25.4.
func plainDecode(b []byte) (archive, api.Errno) {
	head, b, e := piece(b, 40)
	if e != api.OK {
		return archive{}, e
	}
	if string(head[:8]) != "SPINARC1" {
		return archive{}, api.ErrSeal
	}
	word := func(b []byte, n int) uint64 { return binary.BigEndian.Uint64(b[8*n:]) }
	a := archive{ID: word(head, 1), Parent: word(head, 2), Size: word(head, 3)}
	for n := uint64(0); n < word(head, 4); n++ {
		var r run
		r, b, e = plainRun(b)
		if e != api.OK {
			return archive{}, e
		}
		a.Runs = append(a.Runs, r)
	}
	if len(b) > 0 {
		return archive{}, api.ErrCut
	}
	if !plainMayBe(a) {
		return archive{}, api.ErrArchive
	}
	return a, api.OK
}

func plainRun(b []byte) (run, []byte, api.Errno) {
	head, b, e := piece(b, 17)
	if e != api.OK {
		return run{}, nil, e
	}
	r := run{Off: binary.BigEndian.Uint64(head), Len: binary.BigEndian.Uint64(head[8:]), Hole: head[16] == 0}
	if head[16] > 1 {
		return run{}, nil, api.ErrArchive
	}
	if !r.Hole {
		r.Data, b, e = piece(b, r.Len)
	}
	return r, b, e
}

// plainRestore is P25.5.
func plainRestore(chain []archive) ([]byte, int, api.Errno) {
	if len(chain) == 0 {
		return nil, 0, api.ErrArg
	}
	var c cells
	for n, a := range chain {
		switch {
		case !plainMayBe(a):
			return nil, n, api.ErrArchive
		case n == 0 && a.Parent != 0:
			return nil, n, api.ErrLink
		case n > 0 && (a.Parent != chain[n-1].ID || a.Size != chain[n-1].Size):
			return nil, n, api.ErrLink
		case n == 0:
			c = cellsOf(a)
		default:
			c = over(c, cellsOf(a))
		}
	}
	b := make([]byte, len(c))
	for i, cell := range c {
		b[i] = byte(max(cell, 0))
	}
	return b, 0, api.OK
}

// plainJoin is P25.6.
func plainJoin(a, b archive) (archive, api.Errno) {
	switch {
	case !plainMayBe(a) || !plainMayBe(b):
		return archive{}, api.ErrArchive
	case b.Parent != a.ID || b.Size != a.Size || b.ID == a.Parent:
		return archive{}, api.ErrLink
	}
	return archive{ID: b.ID, Parent: a.Parent, Size: a.Size, Runs: runsOf(over(cellsOf(a), cellsOf(b)))}, api.OK
}

// plainChanged is P25.7.
func plainChanged(a archive) ranges {
	if !plainMayBe(a) {
		return nil
	}
	var out ranges
	for i, cell := range cellsOf(a) {
		at := int64(i)
		switch n := len(out); {
		case cell == nothing:
		case n > 0 && out[n-1].Hi == at:
			out[n-1].Hi++
		default:
			out = append(out, api.Range{Lo: at, Hi: at + 1})
		}
	}
	return out
}

// hold holds all that is answered of one archive against the plain reading, and what follows (P25.8).
func hold(t *testing.T, what string, a archive) {
	t.Helper()
	e := plainCheck(a)
	wantErr(t, what+": Check", checkOf(t, a), e)
	wantRanges(t, what+": Changed", changedOf(t, a), plainChanged(a))
	b, got := encodeOf(t, a)
	wantErr(t, what+": Encode", got, e)
	if e != api.OK {
		return
	}
	wantBytes(t, what+": Encode", b, plainEncode(a))
	back, got := decodeOf(t, b)
	wantErr(t, what+": Decode of Encode", got, api.OK)
	wantArchive(t, what+": Decode of Encode", back, a)
	holdChain(t, what, []archive{a})
}

// holdChain holds Restore of a chain against the plain reading.
func holdChain(t *testing.T, what string, chain []archive) {
	t.Helper()
	b, at, e := restoreOf(t, chain)
	wantB, wantAt, wantE := plainRestore(chain)
	wantErr(t, what+": Restore", e, wantE)
	want(t, what+": Restore's place", at, wantAt)
	wantBytes(t, what+": Restore", b, wantB)
}

// holdPair holds Join of two against the plain reading.
func holdPair(t *testing.T, what string, a, b archive) (archive, api.Errno) {
	t.Helper()
	got, e := joinOf(t, a, b)
	wanted, wantE := plainJoin(a, b)
	wantErr(t, what+": Join", e, wantE)
	wantArchive(t, what+": Join", got, wanted)
	return got, e
}

// holdMake holds Make against the plain reading.
func holdMake(t *testing.T, what string, id, parent uint64, b []byte, l []extent) (archive, api.Errno) {
	t.Helper()
	got, e := makeOf(t, id, parent, b, l)
	wanted, wantE := plainMake(id, parent, b, l)
	wantErr(t, what+": Make", e, wantE)
	wantArchive(t, what+": Make", got, wanted)
	return got, e
}

// holdBytes holds Decode against the plain reading; what it takes Encode gives back (P25.8).
func holdBytes(t *testing.T, what string, b []byte) (archive, api.Errno) {
	t.Helper()
	got, e := decodeOf(t, b)
	wanted, wantE := plainDecode(b)
	wantErr(t, what+": Decode", e, wantE)
	wantArchive(t, what+": Decode", got, wanted)
	if e == api.OK {
		again, e := encodeOf(t, got)
		wantErr(t, what+": Encode of Decode", e, api.OK)
		wantBytes(t, what+": Encode of Decode", again, b)
	}
	return got, e
}
