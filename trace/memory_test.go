package trace_test

import (
	"bytes"
	"slices"
	"testing"

	"spindle/api"
	"spindle/trace"
)

// R4: what Pass is handed is not changed, with the room behind it, and not kept: all bytes come through one piece of memory that is written over behind each Pass.
func TestHandedBytes(t *testing.T) {
	for _, f := range forms() {
		steps, open, tally := f.talk()
		for _, size := range []int{1, 3, 7, 16, 19, 33, 1000} {
			x := fresh(t)
			room := make([]byte, 0, 2000)
			for _, s := range steps {
				var told []api.Record
				for b := s.b; len(b) > 0; b = b[min(size, len(b)):] {
					room = append(room[:0], b[:min(size, len(b))]...)
					before := bytes.Clone(whole(room))
					told = append(told, x.Pass(s.server, room)...)
					if !bytes.Equal(whole(room), before) {
						t.Error("the bytes, or the room behind them, have changed")
					}
					spoil(room, 0xee)
				}
				wantRecords(t, f.name, told, s.wanted)
			}
			wantList(t, f.name+": Open", x.Open(), open)
			want(t, f.name+": Count", x.Count(), tally)
		}
	}
}

// R4: what is held while the other side is awaited is the trace's own.
func TestHeldBytes(t *testing.T) {
	x := fresh(t)
	x.Pass(true, greetingBytes(3))
	said := roomy(lay(flagBytes(3), optionBytes(7), plainly.request(read(9, 8, 7)), plainly.request(write(5, 4, 1, 2, 3)), plainly.request(flush(6))[:20]), 0xaa)
	wantRecords(t, "GO", x.Pass(false, said), []api.Record{flags(3), option(7, 0)})
	spoil(said, 0xee)
	rest := roomy(plainly.request(flush(6))[20:], 0xaa)
	x.Pass(false, rest)
	spoil(rest, 0xee)
	wantRecords(t, "its answer", x.Pass(true, ackBytes(7)), []api.Record{ack(7), request(1, read(9, 8, 7), 0), request(2, write(5, 4, 1, 2, 3), 3), request(3, flush(6), 0)})
}

// R4: what is told is new memory: it may be written over and appended to, and nothing that is told later, or was told, is another for it.
func TestToldRecords(t *testing.T) {
	x, y := fresh(t), fresh(t)
	steps, _, _ := extended.talk()
	var kept [][]api.Record
	for _, s := range steps {
		told := x.Pass(s.server, s.b)
		wantRecords(t, "told", told, s.wanted)
		_ = append(told, api.Record{Kind: 77}, api.Record{Kind: 77})
		for i := range told {
			_ = append(told[i].Request.Data, many(9)...)
		}
		spoilRecords(told)
		other := y.Pass(s.server, s.b)
		wantRecords(t, "told by another trace", other, s.wanted)
		kept = append(kept, other)
	}
	for i, s := range steps {
		wantRecords(t, "told earlier", kept[i], s.wanted)
	}
}

// R4: Open's answer is new memory each time.
func TestOpenMemory(t *testing.T) {
	x := fresh(t)
	for _, s := range plainly.waiting(flush(1), flush(2), flush(3)) {
		x.Pass(s.server, s.b)
	}
	first, second := x.Open(), x.Open()
	_ = append(first, 7, 7, 7)
	spoil(first, -5)
	wantList(t, "the other answer", second, []int{1, 2, 3})
	wantList(t, "asked again", x.Open(), []int{1, 2, 3})
	x.Pass(true, simpleBytes(0, 2))
	wantList(t, "told earlier", second, []int{1, 2, 3})
	wantList(t, "asked again", x.Open(), []int{1, 3})
}

// R5, R9: two traces side by side, and some more, know nothing of one another, though the same memory is handed to all.
func TestSideBySide(t *testing.T) {
	all := make([][]step, 3)
	traces := make([]*trace.Trace, 3)
	for i, f := range forms() {
		all[i], _, _ = f.talk()
		traces[i] = fresh(t)
	}
	d := dice(9)
	next := make([]int, 3)
	room := make([]byte, 0, 2000)
	for !slices.Equal(next, []int{len(all[0]), len(all[1]), len(all[2])}) {
		i := d.below(3)
		if next[i] == len(all[i]) {
			continue
		}
		s := all[i][next[i]]
		next[i]++
		room = append(room[:0], s.b...)
		wantRecords(t, forms()[i].name, traces[i].Pass(s.server, room), s.wanted)
	}
	for i, f := range forms() {
		_, open, tally := f.talk()
		wantList(t, f.name+": Open", traces[i].Open(), open)
		want(t, f.name+": Count", traces[i].Count(), tally)
	}
	// The same bytes, of one connection and of another, in turns: cookies are each one's own.
	x, y := fresh(t), fresh(t)
	for _, s := range plainly.waiting(flush(1)) {
		wantRecords(t, "one", x.Pass(s.server, s.b), s.wanted)
		wantRecords(t, "the other", y.Pass(s.server, s.b), s.wanted)
	}
	wantRecords(t, "one", x.Pass(true, simpleBytes(0, 1)), []api.Record{answer(1, 0, 0)})
	wantList(t, "one", x.Open(), nil)
	wantList(t, "the other", y.Open(), []int{1})
	wantRecords(t, "one", x.Pass(true, []byte{0}), []api.Record{wrongServer()})
	wantRecords(t, "the other", y.Pass(true, simpleBytes(5, 1)), []api.Record{answer(1, 5, 0)})
}

// R5: the same bytes are told alike, however often they pass.
func TestAgain(t *testing.T) {
	steps, _, _ := inChunks.talk()
	var first string
	for range 30 {
		x := fresh(t)
		var all string
		for _, s := range steps {
			all += inWords(x.Pass(s.server, s.b)) + "\n"
		}
		if first == "" {
			first = all
		}
		want(t, "told again", all, first)
	}
}
