package copier_test

import (
	"fmt"
	"testing"

	"spindle/api"
)

// A piece is a part as it is to be seen: what is done (d, z or s) with so many bytes.
type piece struct {
	kind byte
	n    uint64
}

// wantParts lets a chunk's status be answered, and looks that its parts are these, one behind the other: each errand alone, each one's count when it is answered. The side's last cookies are 1 and 0.
func (d *desk) wantParts(off uint64, pieces []piece) {
	d.t.Helper()
	s := d.c.State()
	s.Copied, s.Zeroed, s.Skipped = 0, 0, 0
	from, to := uint64(1), uint64(0)
	for i, p := range pieces {
		data := many(int(p.n), i)
		switch p.kind {
		case 's':
			s.Skipped += p.n
		case 'z':
			to++
			d.wantState(s)
			d.wantSay(1, zeroBytes(to, off, p.n))
			s.Zeroed += p.n
			d.hear(1, simpleBytes(0, to))
		case 'd':
			from++
			to++
			d.wantState(s)
			d.wantSay(1)
			d.wantSay(0, readBytes(from, off, p.n))
			d.hear(0, both.read(from, off, data))
			d.wantState(s)
			d.wantSay(0)
			d.wantSay(1, writeBytes(to, off, data))
			s.Copied += p.n
			d.hear(1, simpleBytes(0, to))
		}
		off += p.n
	}
	s.Done, s.Phase = s.Size, api.CopyFlush
	d.wantState(s)
	d.wantSay(0)
	d.wantSay(1, flushBytes(to+1))
}

// asked gives a desk at which the status of a single chunk is outstanding, of a source that tells both contexts.
func asked(t *testing.T, what string, plan api.CopyPlan, n uint64) *desk {
	t.Helper()
	d := working(t, what, plan, both, n)
	d.wantSay(0, statusBytes(1, 0, n))
	return d
}

// P23.4: the parts, by every kind of answer: runs of one context, of both, that meet and cross, with other flags too, and runs that do not reach the chunk's end.
func TestParts(t *testing.T) {
	for _, x := range []struct {
		what        string
		base, dirty []run
		all, marked []piece // without Dirty, and with it
	}{
		{"all data, all dirty", []run{{4096, 0}}, []run{{4096, 1}}, []piece{{'d', 4096}}, []piece{{'d', 4096}}},
		{"all data, nothing dirty", []run{{4096, 0}}, []run{{4096, 0}}, []piece{{'d', 4096}}, []piece{{'s', 4096}}},
		{"all hole, all dirty", []run{{4096, 3}}, []run{{4096, 1}}, []piece{{'z', 4096}}, []piece{{'z', 4096}}},
		{"all hole, nothing dirty", []run{{4096, 3}}, []run{{4096, 0}}, []piece{{'z', 4096}}, []piece{{'s', 4096}}},
		{"a hole that is not told to be zero", []run{{4096, 1}}, []run{{4096, 1}}, []piece{{'d', 4096}}, []piece{{'d', 4096}}},
		{"zero that is no hole", []run{{4096, 2}}, []run{{4096, 1}}, []piece{{'z', 4096}}, []piece{{'z', 4096}}},
		{"other flags", []run{{2048, 0xfffffffd}, {2048, 0xfffffffe}}, []run{{1024, 0xfffffffe}, {3072, 0xffffffff}}, []piece{{'d', 2048}, {'z', 2048}}, []piece{{'s', 1024}, {'d', 1024}, {'z', 2048}}},
		{"data and a hole", []run{{512, 0}, {3584, 3}}, []run{{4096, 1}}, []piece{{'d', 512}, {'z', 3584}}, []piece{{'d', 512}, {'z', 3584}}},
		{"a hole and data", []run{{4095, 3}, {1, 0}}, []run{{4096, 1}}, []piece{{'z', 4095}, {'d', 1}}, []piece{{'z', 4095}, {'d', 1}}},
		{"runs alike", []run{{1000, 0}, {1000, 1}, {1000, 2}, {1096, 3}}, []run{{500, 1}, {500, 3}, {3096, 1}}, []piece{{'d', 2000}, {'z', 2096}}, []piece{{'d', 2000}, {'z', 2096}}},
		{"marks within data", []run{{4096, 0}}, []run{{1024, 0}, {512, 1}, {2560, 0}}, []piece{{'d', 4096}}, []piece{{'s', 1024}, {'d', 512}, {'s', 2560}}},
		{"marks over holes", []run{{1024, 0}, {1024, 3}, {1024, 0}, {1024, 3}}, []run{{512, 0}, {1024, 1}, {1024, 0}, {1536, 1}}, []piece{{'d', 1024}, {'z', 1024}, {'d', 1024}, {'z', 1024}}, []piece{{'s', 512}, {'d', 512}, {'z', 512}, {'s', 1024}, {'d', 512}, {'z', 1024}}},
		{"skipped across a hole's end", []run{{2048, 3}, {2048, 0}}, []run{{1024, 1}, {2048, 0}, {1024, 1}}, []piece{{'z', 2048}, {'d', 2048}}, []piece{{'z', 1024}, {'s', 2048}, {'d', 1024}}},
		{"skipped at the end", []run{{2048, 0}, {2048, 3}}, []run{{3000, 1}, {1096, 0}}, []piece{{'d', 2048}, {'z', 2048}}, []piece{{'d', 2048}, {'z', 952}, {'s', 1096}}},
		{"a byte each", []run{{1, 0}, {1, 2}, {1, 0}, {4093, 2}}, []run{{1, 1}, {1, 1}, {1, 0}, {4093, 1}}, []piece{{'d', 1}, {'z', 1}, {'d', 1}, {'z', 4093}}, []piece{{'d', 1}, {'z', 1}, {'s', 1}, {'z', 4093}}},
		{"holes that end early", []run{{1024, 3}}, []run{{4096, 1}}, []piece{{'z', 1024}, {'d', 3072}}, []piece{{'z', 1024}, {'d', 3072}}},
		{"holes that end a byte early", []run{{4095, 3}}, []run{{4096, 1}}, []piece{{'z', 4095}, {'d', 1}}, []piece{{'z', 4095}, {'d', 1}}},
		{"data that end early", []run{{1024, 0}}, []run{{4096, 1}}, []piece{{'d', 4096}}, []piece{{'d', 4096}}},
		{"marks that end early", []run{{4096, 0}}, []run{{1024, 0}}, []piece{{'d', 4096}}, []piece{{'s', 1024}, {'d', 3072}}},
		{"marks that end early, over a hole", []run{{4096, 3}}, []run{{1024, 0}}, []piece{{'z', 4096}}, []piece{{'s', 1024}, {'z', 3072}}},
		{"both end early", []run{{2048, 3}}, []run{{1024, 0}}, []piece{{'z', 2048}, {'d', 2048}}, []piece{{'s', 1024}, {'z', 1024}, {'d', 2048}}},
		{"both end early, the holes first", []run{{1024, 3}}, []run{{2048, 0}}, []piece{{'z', 1024}, {'d', 3072}}, []piece{{'s', 2048}, {'d', 2048}}},
		{"both end at once", []run{{512, 3}}, []run{{512, 1}}, []piece{{'z', 512}, {'d', 3584}}, []piece{{'z', 512}, {'d', 3584}}},
	} {
		d := asked(t, x.what, aPlan(), 4096)
		d.hear(0, both.status(1, x.base, x.dirty))
		d.wantParts(0, x.all)
		d = asked(t, x.what+", of what is dirty", dirtyPlan(), 4096)
		d.hear(0, both.status(1, x.base, x.dirty))
		d.wantParts(0, x.marked)
	}
}

// P23.4: the contexts may be told in either order, one chunk being the last.
func TestContextsInAnyOrder(t *testing.T) {
	for n := range 2 {
		d := asked(t, fmt.Sprint("order ", n), dirtyPlan(), 4096)
		list := [][]byte{runBytes(uint16(n), 1, both.base, run{1024, 3}, run{3072, 0}), runBytes(uint16(1-n), 1, both.dirty, run{2048, 1}, run{2048, 0})}
		d.hear(0, list[n])
		d.wantState(api.CopyState{Phase: api.CopyWork, Size: 4096})
		d.hear(0, list[1-n])
		d.wantParts(0, []piece{{'z', 1024}, {'d', 1024}, {'s', 2048}})
	}
}

// P23.4: a simple answer to a status tells nothing; a client takes one only where chunks are not agreed upon, and there only errors make sense; where it is told to be well all bytes are data. Such a status is one that was asked of a connection that had told holes.
func TestStatusThatTellsNothing(t *testing.T) {
	d := working(t, "told nothing", aPlan(), telling, 4096)
	d.wantSay(0, statusBytes(1, 0, 4096))
	d.lost(0)
	d.begin(0, plainly, 4096)
	d.wantSay(0, statusBytes(1, 0, 4096))
	d.hear(0, simpleBytes(0, 1))
	d.wantSay(0, readBytes(2, 0, 4096))
}

// P23.4: runs of a context that is not noted are nothing, though its id be 0.
func TestStatusOfAnotherContext(t *testing.T) {
	d := working(t, "another context", aPlan(), telling, 4096)
	d.lost(0)
	d.hear(0, greetingBytes(3))
	d.hear(0, ackBytes(8))
	d.hear(0, contextBytes(0, "spindle:unsaved"), ackBytes(10))
	d.hear(0, startBytes(4096))
	d.say(0)
	d.hear(0, runBytes(1, 1, 0, run{4096, 3}))
	d.wantSay(0, readBytes(2, 0, 4096))
	d.wantSay(1)
}

// P23.4: the ids are those of the connection that answers.
func TestContextsOfTheConnection(t *testing.T) {
	d := asked(t, "other ids", dirtyPlan(), 4096)
	d.lost(0)
	other := form{name: "other ids", chunks: true, base: both.dirty, dirty: both.base}
	d.begin(0, other, 4096)
	d.wantSay(0, statusBytes(1, 0, 4096))
	d.hear(0, other.status(1, []run{{2048, 3}, {2048, 0}}, []run{{1024, 0}, {3072, 1}}))
	d.wantSay(1, zeroBytes(1, 1024, 1024))
	d.wantState(api.CopyState{Phase: api.CopyWork, Size: 4096, Skipped: 1024})
}

// P23.4: marks alone, without holes, are not asked: all is read, of what is dirty too.
func TestMarksWithoutHoles(t *testing.T) {
	d := working(t, "marks alone", dirtyPlan(), marking, 4096)
	d.wantSay(0, readBytes(1, 0, 4096))
	d.hear(0, marking.read(1, 0, many(4096, 0)))
	d.wantSay(1, writeBytes(1, 0, many(4096, 0)))
	d.hear(1, simpleBytes(0, 1))
	d.wantState(api.CopyState{Phase: api.CopyFlush, Size: 4096, Done: 4096, Copied: 4096})
}

// P23.4: holes told as data of a read, or in several chunks, are read.
func TestReadsInChunks(t *testing.T) {
	d := working(t, "chunks", aPlan(), bare, 4096)
	d.wantSay(0, readBytes(1, 0, 4096))
	d.hear(0, chunkBytes(0, 2, 1, lay(uint64(1000), uint32(3000))...))
	d.hear(0, chunkBytes(0, 1, 1, lay(uint64(4000), many(96, 7))...))
	d.wantSay(1)
	d.hear(0, chunkBytes(1, 1, 1, lay(uint64(0), many(1000, 3))...))
	d.wantSay(1, writeBytes(1, 0, lay(many(1000, 3), make([]byte, 3000), many(96, 7))))
}

// P23.4: chunks by rising numbers, the last one as long as the source has bytes, no more in work than Flight, a next one as soon as one is done.
func TestFlight(t *testing.T) {
	for _, flight := range []int{1, 2, 3, 5, 6, 64} {
		for _, size := range []uint64{1, 512, 4095, 4096, 4097, 8192, 20479, 20480, 20481} {
			plan := aPlan()
			plan.Flight = flight
			d := working(t, fmt.Sprintf("flight %d, size %d", flight, size), plan, plainly, size)
			chunks := int((size + 4095) / 4096)
			length := func(k int) uint64 { return min(4096, size-4096*uint64(k)) }
			var first [][]byte
			for k := range min(flight, chunks) {
				first = append(first, readBytes(uint64(k+1), 4096*uint64(k), length(k)))
			}
			d.wantSay(0, first...)
			done := uint64(0)
			for k := range chunks {
				d.hear(0, plainly.read(uint64(k+1), 4096*uint64(k), many(int(length(k)), k)))
				d.wantSay(0)
				d.wantSay(1, writeBytes(uint64(k+1), 4096*uint64(k), many(int(length(k)), k)))
				d.hear(1, simpleBytes(0, uint64(k+1)))
				done += length(k)
				if next := k + flight; next < chunks {
					d.wantState(api.CopyState{Phase: api.CopyWork, Size: size, Done: done, Copied: done})
					d.wantSay(0, readBytes(uint64(next+1), 4096*uint64(next), length(next)))
				}
			}
			d.wantState(api.CopyState{Phase: api.CopyFlush, Size: size, Done: size, Copied: size})
			d.wantSay(0)
			d.wantSay(1, flushBytes(uint64(chunks+1)))
		}
	}
}

// P23.4: chunks may be done in any order: the next one that waits is begun.
func TestChunksInAnyOrder(t *testing.T) {
	d := working(t, "any order", aPlan(), plainly, 16384)
	d.wantSay(0, readBytes(1, 0, 4096), readBytes(2, 4096, 4096))
	d.hear(0, plainly.read(2, 4096, many(4096, 1)))
	d.hear(1, simpleBytes(0, 1))
	d.wantSay(0, readBytes(3, 8192, 4096))
	d.hear(0, plainly.read(3, 8192, many(4096, 2)))
	d.hear(1, simpleBytes(0, 2))
	d.wantSay(0, readBytes(4, 12288, 4096))
	d.hear(0, plainly.read(4, 12288, many(4096, 3)))
	d.hear(1, simpleBytes(0, 3))
	d.wantState(api.CopyState{Phase: api.CopyWork, Size: 16384, Done: 12288, Copied: 12288})
	d.wantSay(0)
	d.wantSay(1, writeBytes(1, 4096, many(4096, 1)), writeBytes(2, 8192, many(4096, 2)), writeBytes(3, 12288, many(4096, 3)))
	d.hear(0, plainly.read(1, 0, many(4096, 0)))
	d.wantSay(1, writeBytes(4, 0, many(4096, 0)))
	d.hear(1, simpleBytes(0, 4))
	d.wantSay(1, flushBytes(5))
}

// P23.4: a chunk of which all is skipped is done as soon as it is told so; the next ones are begun at once.
func TestSkippedChunks(t *testing.T) {
	plan := dirtyPlan()
	plan.Flight = 1
	d := working(t, "skipped", plan, both, 12288)
	for k := range uint64(3) {
		d.wantState(api.CopyState{Phase: api.CopyWork, Size: 12288, Done: 4096 * k, Skipped: 4096 * k})
		d.wantSay(0, statusBytes(k+1, 4096*k, 4096))
		d.wantSay(1)
		d.hear(0, both.status(k+1, []run{{4096, uint32(k)}}, []run{{4096, 0}}))
	}
	d.wantState(api.CopyState{Phase: api.CopyFlush, Size: 12288, Done: 12288, Skipped: 12288})
	d.wantSay(1, flushBytes(1))
}

// P23.4: the greatest chunk, and one of the greatest size that there is.
func TestGreatChunks(t *testing.T) {
	plan := aPlan()
	plan.Chunk = api.MaxPayload
	d := working(t, "the greatest chunk", plan, telling, 1<<20+1<<19)
	d.wantSay(0, statusBytes(1, 0, 1<<20), statusBytes(2, 1<<20, 1<<19))
	d.hear(0, telling.status(1, []run{{1 << 20, 0}}, nil), telling.status(2, []run{{1 << 19, 2}}, nil))
	d.wantSay(0, readBytes(3, 0, 1<<20))
	d.hear(0, telling.read(3, 0, many(1<<20, 0)))
	d.wantSay(1, zeroBytes(1, 1<<20, 1<<19), writeBytes(2, 0, many(1<<20, 0)))
	d.hear(1, simpleBytes(0, 1), simpleBytes(0, 2))
	d.wantSay(1, flushBytes(3))

	plan.Flight = 64
	d = working(t, "the greatest size", plan, telling, max64)
	var first [][]byte
	for k := range uint64(64) {
		first = append(first, statusBytes(k+1, k<<20, 1<<20))
	}
	d.wantSay(0, first...)
	d.hear(0, telling.status(64, []run{{1 << 20, 2}}, nil))
	d.hear(1, simpleBytes(0, 1))
	d.wantSay(0, statusBytes(65, 64<<20, 1<<20))
	d.wantState(api.CopyState{Phase: api.CopyWork, Size: max64, Done: 1 << 20, Zeroed: 1 << 20})
}

// P23.4: as many runs as a chunk can tell: a part each.
func TestManyParts(t *testing.T) {
	plan := aPlan()
	plan.Chunk = 65536
	d := working(t, "many parts", plan, telling, 65536)
	var runs []run
	for k := range uint32(65536) {
		runs = append(runs, run{1, k % 2 * 2})
	}
	d.hear(0, telling.status(1, runs, nil))
	d.wantSay(0, statusBytes(1, 0, 65536), readBytes(2, 0, 1))
	d.hear(0, telling.read(2, 0, []byte{9}))
	d.wantSay(1, writeBytes(1, 0, []byte{9}))
	d.hear(1, simpleBytes(0, 1))
	d.wantSay(1, zeroBytes(2, 1, 1))
	d.hear(1, simpleBytes(0, 2))
	d.wantSay(0, readBytes(3, 2, 1))
	d.wantState(api.CopyState{Phase: api.CopyWork, Size: 65536, Copied: 1, Zeroed: 1})
}
