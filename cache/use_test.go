package cache_test

import (
	"bytes"
	"math"
	"testing"

	"spindle/api"
	"spindle/disk"
)

// noSectors are numbers that no sector of a disk of 8 has.
var noSectors = []int{-1, 8, 9, math.MinInt, math.MaxInt, -8, 1 << 32, api.MaxSectors}

// P5.2: a sector without a line is read from the disk, once; one with a line is not
func TestRead(t *testing.T) {
	d, c := made(t, 3, "abcdefgh")
	for i, n := range []int{5, 0, 7} {
		wantRead(t, c, n, full(rune('a'+n)))
		wantCounts(t, "misses", c, 0, uint64(i+1), 0, 0)
		wantAsked(t, "misses", d, uint64(i+1), 0, 0, 0)
	}
	wantLines(t, "clean lines", c, "5 0n 7")
	for i, n := range []int{0, 5, 5, 7, 0} {
		wantRead(t, c, n, full(rune('a'+n)))
		wantCounts(t, "hits", c, uint64(i+1), 3, 0, 0)
	}
	wantLines(t, "a line that is read is the one used last", c, "5 7 0n")
	wantAsked(t, "hits", d, 3, 0, 0, 0)
}

// P5.2: a read tells what was written into the cache, and what waits at the disk
func TestReadOfWhatIsNotSafe(t *testing.T) {
	d, c := made(t, 2, "abcdefgh")
	play(t, c, "w3A")
	wantRead(t, c, 3, full('A'))
	wantLines(t, "a read leaves a dirty line dirty", c, "3*")
	play(t, c, "w3B r4 r5")
	wantLines(t, "3 gave way", c, "4 5")
	wantQueue(t, "3 gave way", d, "3B")
	wantRead(t, c, 3, full('B'))
	wantLines(t, "3 is read from the disk", c, "5 3")
	wantSafe(t, "nothing is safe", d, "abcdefgh")
}

// P5.2: the first and the last sector; bytes that are not all alike
func TestReadOfEachSector(t *testing.T) {
	var image []byte
	for n := range 8 {
		image = append(image, stamp(1000+n)...)
	}
	d, e := disk.Load(image)
	wantErr(t, "Load", e, api.OK)
	for _, lines := range []int{1, 3, 8} {
		c := over(t, d, lines, api.Span{First: 0, Count: 2})
		for _, n := range []int{7, 0, 1, 2, 0, 7, 3, 4, 5, 6, 6} {
			wantRead(t, c, n, stamp(1000+n))
		}
	}
}

// P5.2: a read of the disk that fails makes no line; the room stays made
func TestReadThatFails(t *testing.T) {
	d, c := made(t, 2, "abcdefgh")
	arm(t, d, reading, 5, 0, 2, false)
	fails(t, c, "r5", api.ErrIO)
	wantLines(t, "no line", c, "")
	wantCounts(t, "a miss", c, 0, 1, 0, 0)
	play(t, c, "w3A r4")
	fails(t, c, "r5", api.ErrIO)
	wantLines(t, "3 gave way", c, "4")
	wantCounts(t, "3 gave way", c, 0, 4, 1, 1)
	wantQueue(t, "3 gave way", d, "3A")
	wantAsked(t, "two reads have failed", d, 1, 1, 0, 2)
	wantRead(t, c, 5, full('f'))
	wantLines(t, "there was room", c, "4 5")
	wantCounts(t, "there was room", c, 0, 5, 1, 1)
	wantRead(t, c, 3, full('A'))
}

// P5.2: what is held is read while the disk fails
func TestReadOfALineAsksNothing(t *testing.T) {
	d, c := made(t, 3, "abcdefgh")
	play(t, c, "r3 w4A w0B")
	arm(t, d, reading, -1, 0, 9, false)
	arm(t, d, writing, -1, 0, 9, false)
	arm(t, d, barring, -1, 0, 9, false)
	wantRead(t, c, 3, full('d'))
	wantRead(t, c, 4, full('A'))
	wantRead(t, c, 0, full('B'))
	wantAsked(t, "hits", d, 1, 0, 0, 0)
	wantLines(t, "hits", c, "3 4* 0n*")
}

// P5.2, P5.3, P5.5, P5.7, R2: no such sector
func TestNoSuchSector(t *testing.T) {
	d, c := busy(t)
	before := lookAt(c, d)
	for _, n := range noSectors {
		b, e := c.Read(n)
		wantErr(t, "Read", e, api.ErrSector)
		want(t, "bytes of Read", len(b), 0)
		wantErr(t, "Write", c.Write(n, full('A')), api.ErrSector)
		wantErr(t, "Write of no bytes", c.Write(n, nil), api.ErrSector)
		wantErr(t, "Write of too many bytes", c.Write(n, make([]byte, 513)), api.ErrSector)
		b, e = c.Peek(n)
		wantErr(t, "Peek", e, api.ErrSector)
		want(t, "bytes of Peek", len(b), 0)
		want(t, "Dirty", c.Dirty(n), false)
		want(t, "Safe", c.Safe(n), false)
		wantErr(t, "Through", c.Through([]int{n}), api.ErrSector)
		wantErr(t, "Through, behind others", c.Through([]int{4, 1, 7, n}), api.ErrSector)
		wantErr(t, "Through, ahead of others", c.Through([]int{n, 4, 1, 7}), api.ErrSector)
		wantErr(t, "Through, amid data", c.Through([]int{4, n, 7}), api.ErrSector)
		wantLook(t, "no such sector", c, d, before)
	}
}

// P5.3, R2: not just 512 bytes
func TestWriteOfOtherBytes(t *testing.T) {
	d, c := busy(t)
	before := lookAt(c, d)
	for _, n := range []int{1, 2, 4, 3, 0, 7} {
		for _, size := range []int{0, 1, 510, 511, 513, 1024, 100_000} {
			wantErr(t, "Write", c.Write(n, make([]byte, size)), api.ErrBytes)
		}
		wantErr(t, "Write of nil", c.Write(n, nil), api.ErrBytes)
		wantErr(t, "Write of fewer bytes with room behind them", c.Write(n, full('A')[:511]), api.ErrBytes)
	}
	wantLook(t, "other bytes", c, d, before)
}

// P5.3: a sector without a line; the disk is neither read nor written
func TestWrite(t *testing.T) {
	d, c := made(t, 3, "abcdefgh")
	arm(t, d, reading, -1, 0, 9, false)
	play(t, c, "w5A w0B w7C")
	wantLines(t, "dirty lines", c, "5* 0n* 7*")
	wantCounts(t, "misses", c, 0, 3, 0, 0)
	wantAsked(t, "nothing", d, 0, 0, 0, 0)
	wantPeeks(t, "what was written", c, "BbcdeAgC")
	play(t, c, "w5D w0E")
	wantLines(t, "a line that is written is the one used last", c, "7* 5* 0n*")
	wantCounts(t, "hits", c, 2, 3, 0, 0)
	wantPeeks(t, "what was written last", c, "EbcdeDgC")
	wantAsked(t, "nothing", d, 0, 0, 0, 0)
	wantSafe(t, "nothing", d, "abcdefgh")
}

// P5.3: a line that is written is dirty, whatever its bytes were
func TestWriteOfTheSameBytes(t *testing.T) {
	d, c := made(t, 3, "abcdefgh")
	play(t, c, "r3 r1 w3d w1b")
	wantLines(t, "the disk's own bytes", c, "3* 1n*")
	play(t, c, "f w3d w1b w5f")
	wantLines(t, "once more", c, "3* 1n* 5*")
	want(t, "Safe", c.Safe(3) || c.Safe(1) || c.Safe(5), false)
	play(t, c, "f")
	wantCounts(t, "each is written each time", c, 4, 3, 0, 5)
	wantAsked(t, "each is written each time", d, 2, 5, 4, 0)
}

// P5.3: bytes that are not all alike, at the first and the last sector
func TestWriteOfEachSector(t *testing.T) {
	for _, lines := range []int{1, 3, 8} {
		d, c := made(t, lines, "abcdefgh")
		for round := range 3 {
			for n := range 8 {
				wantErr(t, "Write", c.Write(n, stamp(8*round+n)), api.OK)
			}
			for n := range 8 {
				wantRead(t, c, n, stamp(8*round+n))
			}
		}
		play(t, c, "f")
		for n := range 8 {
			if !bytes.Equal(d.Image()[512*n:512*n+512], stamp(16+n)) {
				t.Error("on the disk is something else:", lines, n)
			}
		}
	}
}

// P5.3: a write for which no room can be made changes nothing but that a miss is counted
func TestWriteThatFails(t *testing.T) {
	d, c := made(t, 2, "abcdefgh")
	play(t, c, "w3A w4B")
	arm(t, d, writing, 3, 0, 2, false)
	for i := range 2 {
		fails(t, c, "w5C", api.ErrIO)
		wantLines(t, "no room", c, "3* 4*")
		wantPeeks(t, "no room", c, "abcABfgh")
		wantCounts(t, "no room", c, 0, uint64(3+i), 0, 0)
	}
	play(t, c, "w5D")
	wantLines(t, "room again", c, "4* 5*")
	wantPeeks(t, "room again", c, "abcABDgh")
	wantCounts(t, "room again", c, 0, 5, 1, 1)
}

// R4: what is written is neither changed nor kept, its spare room included
func TestWriteKeepsNothing(t *testing.T) {
	for _, calls := range []string{"", "r3", "w3B"} {
		_, c := made(t, 2, "abcdefgh")
		play(t, c, calls)
		b := append(make([]byte, 0, 2048), full('A')...)
		wantErr(t, "Write", c.Write(3, b), api.OK)
		play(t, c, "w3C f w3A")
		if !bytes.Equal(b, full('A')) || !bytes.Equal(b[512:2048], make([]byte, 1536)) {
			t.Error("what was handed in is changed")
		}
		wantErr(t, "Write", c.Write(3, b), api.OK)
		spoil(b)
		wantRead(t, c, 3, full('A'))
		play(t, c, "f")
		wantPeeks(t, "behind a change of what was handed in", c, "abcAefgh")
	}
}

// R4: what is read and peeked is memory of its own, its spare room included
func TestAnswersAreNewMemory(t *testing.T) {
	d, c := made(t, 3, "abcdefgh")
	play(t, c, "w2A w3B b r4") // a clean line in the queue, a dirty one, a clean one
	_, e := c.Read(5)          // 2 gave way, and waits at the disk
	wantErr(t, "Read", e, api.OK)
	before := lookAt(c, d)
	for n := range 8 {
		one, _ := c.Peek(n)
		two, _ := c.Peek(n)
		spoil(one)
		if !bytes.Equal(two, before.peeks[n]) {
			t.Error("two answers of Peek share bytes:", n)
		}
		spoil(two)
	}
	wantLook(t, "answers of Peek spoilt", c, d, before)
	for n := range 8 {
		for range 3 { // a miss, and hits
			b, e := c.Read(n)
			if e != api.OK || !bytes.Equal(b, before.peeks[n]) {
				t.Error("answers share bytes:", n, e)
			}
			other, _ := c.Read(n)
			spoil(b)
			if !bytes.Equal(other, before.peeks[n]) {
				t.Error("two answers of Read share bytes:", n)
			}
		}
	}
	play(t, c, "f")
	wantSafe(t, "at last", d, "abABefgh")
}
