package backup_test

import (
	"bytes"
	"encoding/binary"
	"encoding/hex"
	"fmt"
	"math"
	"slices"
	"strings"
	"testing"

	"spindle/api"
	"spindle/backup"
	"spindle/octet"
)

// P25.3: the bytes, one thing after the other, with no run, one and many.
func TestBytes(t *testing.T) {
	for _, x := range []struct {
		name string
		a    archive
		head string
		rest []string // the runs' heads and Data, without their sums
	}{
		{"no run", since(0x0102030405060708, 0x1112131415161718, 0x1ff0203),
			"5350494e41524331 0102030405060708 1112131415161718 0000000001ff0203 0000000000000000", nil},
		{"one hole", full(1, hole(0, 0x1234)),
			"5350494e41524331 0000000000000001 0000000000000000 0000000000001234 0000000000000001",
			[]string{"0000000000000000 0000000000001234 00"}},
		{"one of data", since(math.MaxUint64, 0x80, 0x2000000, data(0x1fffffd, "abc")),
			"5350494e41524331 ffffffffffffffff 0000000000000080 0000000002000000 0000000000000001",
			[]string{"0000000001fffffd 0000000000000003 01", "616263"}},
		{"many", full(7, data(0, "a\x00"), hole(2, 3), data(5, "\xff"), hole(6, 1)),
			"5350494e41524331 0000000000000007 0000000000000000 0000000000000007 0000000000000004",
			[]string{
				"0000000000000000 0000000000000002 01", "6100",
				"0000000000000002 0000000000000003 00",
				"0000000000000005 0000000000000001 01", "ff",
				"0000000000000006 0000000000000001 00",
			}},
	} {
		var wanted []byte
		for _, part := range append([]string{x.head}, x.rest...) {
			b, _ := hex.DecodeString(strings.ReplaceAll(part, " ", ""))
			wanted = append(wanted, b...)
			wanted = binary.BigEndian.AppendUint32(wanted, octet.Crc(b))
		}
		b, e := encodeOf(t, x.a)
		wantErr(t, x.name+": Encode", e, api.OK)
		wantBytes(t, x.name+": Encode", b, wanted)
		got, e := decodeOf(t, wanted)
		wantErr(t, x.name+": Decode", e, api.OK)
		wantArchive(t, x.name+": Decode", got, x.a)
	}
}

// P25.4, P25.8: of all that may be, cut at every place, with bytes behind, and read back.
func TestDecodeOfWhatIsCut(t *testing.T) {
	for _, x := range rightOnes() {
		b := plainEncode(x.archive)
		holdBytes(t, x.name, b)
		for n := range b {
			wantDecoded(t, fmt.Sprint(x.name, ": ", n, " bytes of ", len(b)), b[:n], api.ErrCut)
		}
		for _, more := range [][]byte{{0}, {0xff}, {0, 0, 0, 0}, make([]byte, 21), runBytes(x.Size, 1, 0), b} {
			wantDecoded(t, fmt.Sprint(x.name, ": ", len(more), " bytes behind"), slices.Concat(b, more), api.ErrCut)
		}
	}
	wantDecoded(t, "no byte", nil, api.ErrCut)
}

// P25.4, P25.8: one byte turned into each other one, at every place.
func TestDecodeOfOneByteTurned(t *testing.T) {
	for _, a := range []archive{exampleOne(), exampleTwo(), since(2, 1, 1), full(3, data(0, "ab"), hole(2, 1), data(3, "c"))} {
		b := plainEncode(a)
		for at := range b {
			for turn := 1; turn < 256; turn++ {
				b[at] ^= byte(turn)
				if got, e := backup.Decode(b); e != api.ErrSeal || !same(got, archive{}) {
					t.Errorf("byte %d of %d turned by %#x: %s, error %d", at, len(b), turn, shown(got), e)
				}
				b[at] ^= byte(turn)
			}
		}
		holdBytes(t, "turned back", b)
	}
}

// P25.4: turned and cut, both at every place; the first that is met is told.
func TestDecodeOfTurnedAndCut(t *testing.T) {
	met := map[api.Errno]int{}
	for _, a := range []archive{exampleOne(), full(3, data(0, "ab"), hole(2, 1), data(3, "c"))} {
		b := plainEncode(a)
		for at := range b {
			b[at] ^= 0x40
			for n := range len(b) + 1 {
				_, e := holdBytes(t, fmt.Sprint("byte ", at, " turned, ", n, " bytes"), b[:n])
				met[e]++
			}
			_, e := holdBytes(t, fmt.Sprint("byte ", at, " turned, one more byte"), append(slices.Clip(b), 0))
			wantErr(t, "turned, and a byte behind", e, api.ErrSeal)
			b[at] ^= 0x40
		}
	}
	want(t, "both errors are met, and no other", len(met) == 2 && met[api.ErrCut] > 1000 && met[api.ErrSeal] > 1000, true)
}

// P25.4: a head that is not an archive's, with the right sum.
func TestDecodeOfOtherHeads(t *testing.T) {
	for at := range 8 {
		for _, turn := range []byte{1, 0x20, 0x80, 0xff} {
			b := plainEncode(exampleOne())
			b[at] ^= turn
			b = slices.Concat(sealed(b[:40]), b[44:])
			_, e := holdBytes(t, "other first bytes", b)
			wantErr(t, "other first bytes", e, api.ErrSeal)
			wantDecoded(t, "other first bytes, and cut behind the head", b[:44], api.ErrSeal)
			wantDecoded(t, "other first bytes, and cut in the head", b[:43], api.ErrCut)
			wantDecoded(t, "other first bytes, and a wrong sum", append(slices.Clone(b[:40]), 0, 0, 0, 0), api.ErrSeal)
		}
	}
}

// P25.4: a run's byte that is neither 0 nor 1. Its sum is looked at first, and what stands behind it not at all.
func TestDecodeOfOtherKinds(t *testing.T) {
	for kind := range 256 {
		for n := range 2 { // whether it is the first run
			ahead := slices.Concat(headBytes(2, 1, 9, uint64(n+1)), slices.Repeat(slices.Concat(runBytes(0, 1, 0)), n))
			right := slices.Concat(ahead, runBytes(2, 3, byte(kind)))
			what := fmt.Sprint("a byte ", kind)
			wanted := api.ErrArchive
			if kind == 0 {
				wanted = api.OK
			} else if kind == 1 {
				wanted = api.ErrCut // its Data
			}
			wantDecoded(t, what, right, wanted)
			wantDecoded(t, what+", with a wrong sum", append(right[:len(right)-1:len(right)-1], ^right[len(right)-1]), api.ErrSeal)
			wantDecoded(t, what+", and cut", right[:len(right)-1], api.ErrCut)
			if kind > 1 {
				wantDecoded(t, what+", and more behind", append(slices.Clip(right), 9, 9, 9), api.ErrArchive)
				wantDecoded(t, what+", and Data behind", slices.Concat(right, sealed([]byte("abc"))), api.ErrArchive)
			}
			for _, behind := range []string{"", "a", "abcdefg", text(40)} {
				holdBytes(t, what, append(slices.Clip(right), behind...))
			}
		}
	}
}

// P25.4: a number of runs that is not that of the runs.
func TestDecodeOfOtherNumbersOfRuns(t *testing.T) {
	a := full(3, data(0, "ab"), hole(2, 1), data(3, "c"))
	runs := plainEncode(a)[44:]
	for _, count := range []uint64{0, 1, 2, 3, 4, 5, 1 << 20, 1 << 31, 1 << 32, 1 << 63, math.MaxInt64, math.MaxUint64 - 1, math.MaxUint64} {
		wanted := api.ErrCut
		if count == 3 {
			wanted = api.OK
		}
		wantDecoded(t, fmt.Sprint("3 runs told to be ", count), slices.Concat(headBytes(3, 0, 4, count), runs), wanted)
		if count > 0 {
			wantDecoded(t, fmt.Sprint("no run told to be ", count), headBytes(3, 0, 4, count), api.ErrCut)
		}
	}
}

// P25.4: lengths of Data that never come, up to those whose sum with that of the check sum's wraps.
func TestDecodeOfDataThatNeverCome(t *testing.T) {
	for _, size := range []uint64{5, 6, 100, 1 << 31, 1 << 32, 1<<32 + 4, 1 << 40, 1<<63 - 1, 1 << 63, 1<<63 + 4, math.MaxUint64 - 4, math.MaxUint64 - 3, math.MaxUint64 - 2, math.MaxUint64 - 1, math.MaxUint64} {
		for _, behind := range []string{"", "abc", "abcd", "abcdefgh"} {
			b := slices.Concat(headBytes(2, 1, 9, 1), runBytes(0, size, 1), []byte(behind))
			_, e := holdBytes(t, fmt.Sprint("Data of ", size, " bytes"), b)
			wantErr(t, fmt.Sprint("Data of ", size, " bytes"), e, api.ErrCut)
		}
		_, e := holdBytes(t, fmt.Sprint("a hole of ", size, " bytes"), slices.Concat(headBytes(2, 1, 4, 1), runBytes(0, size, 0)))
		wantErr(t, fmt.Sprint("a hole of ", size, " bytes"), e, api.ErrArchive)
	}
}

// P25.4: bytes of an archive that may not be. A hole's Data and a number of Data other than Len can't be laid down.
func TestDecodeOfWrongOnes(t *testing.T) {
	looked := 0
	for _, x := range wrongOnes() {
		if slices.ContainsFunc(x.Runs, func(r run) bool { return uint64(len(r.Data)) != r.Len && !r.Hole || r.Hole && len(r.Data) > 0 }) {
			continue
		}
		looked++
		b := plainEncode(x.archive)
		wantDecoded(t, x.name, b, api.ErrArchive)
		wantDecoded(t, x.name+", and a byte behind", append(slices.Clip(b), 0), api.ErrCut)
		wantDecoded(t, x.name+", and cut", b[:len(b)-1], api.ErrCut)
		b[len(b)-1] ^= 1
		wantDecoded(t, x.name+", and its last byte turned", b, api.ErrSeal)
	}
	want(t, "enough were looked at", looked > 40, true)
}

// P25.4: Data of Len 0 have a sum, too, and that is looked at ahead of the archive.
func TestDecodeOfNoData(t *testing.T) {
	b := slices.Concat(headBytes(2, 1, 9, 1), runBytes(0, 0, 1), sealed(nil))
	wantDecoded(t, "Data of Len 0", b, api.ErrArchive)
	wantDecoded(t, "Data of Len 0, and cut", b[:len(b)-1], api.ErrCut)
	wantDecoded(t, "Data of Len 0, without a sum", b[:len(b)-4], api.ErrCut)
	b[len(b)-2] ^= 1
	wantDecoded(t, "Data of Len 0, with a wrong sum", b, api.ErrSeal)
}

// P25.4: bytes that are thrown, with the right sums here and there.
func TestDecodeOfThrownBytes(t *testing.T) {
	met := map[api.Errno]int{}
	for seed := range 20000 {
		d := dice(seed)
		_, e := holdBytes(t, fmt.Sprint("thrown ", seed), throwBytes(&d))
		met[e]++
	}
	for _, e := range []api.Errno{api.OK, api.ErrCut, api.ErrSeal, api.ErrArchive} {
		if met[e] < 100 {
			t.Error("hardly met: error", e, met[e])
		}
	}
}

// throwBytes throws for things laid one behind the other, most of them as they should be.
func throwBytes(d *dice) []byte {
	runs := d.below(4)
	size := uint64(1 + d.below(12))
	b := headBytes(uint64(d.below(12)), uint64(pick(d, 0, 1, 2)), size, uint64(runs+pick(d, 0, 0, 0, 0, 1, -min(runs, 1))))
	at := uint64(0)
	for range runs {
		off, n := at+uint64(pick(d, 0, 0, 1, 2)), 1+d.below(4)
		at = off + uint64(n)
		kind := byte(pick(d, 0, 1, 1, 1, d.below(256)))
		b = append(b, runBytes(off, uint64(n), kind)...)
		if kind == 1 {
			b = append(b, sealed([]byte(text(n)))...)
		}
	}
	if d.below(6) == 0 {
		b[d.below(len(b))] ^= byte(1 + d.below(255))
	}
	if d.below(6) == 0 {
		b = b[:d.below(len(b))]
	}
	if d.below(6) == 0 {
		b = append(b, bytes.Repeat([]byte{byte(d.below(3))}, d.below(30))...)
	}
	return b
}
