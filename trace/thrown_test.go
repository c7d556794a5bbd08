package trace_test

import (
	"fmt"
	"testing"

	"spindle/api"
)

// A street is where both sides say what is thrown for, mostly what they may say, and a tap stands between them.
type street struct {
	d        *dice
	x        *tap
	up, down []byte // what was said and has not passed
	cookie   uint64
}

// clientWords throws for what the client says next.
func (s *street) clientWords() []byte {
	d, p := s.d, s.x.p
	switch {
	case len(p.flags) == 0:
		return spotted(d, flagBytes(pick[uint32](d, 3, 3, 3, 3, 3, 1, 0, 2)))
	case p.started:
		return s.requestWords(p.extended)
	}
	var b []byte
	for range 1 + d.below(2) {
		b = append(b, s.optionWords()...)
	}
	return spotted(d, b)
}

func (s *street) optionWords() []byte {
	d := s.d
	data := many(pick(d, 0, 0, 1, 7, d.below(60)))
	code := pick[uint32](d, 8, 8, 8, 11, 11, 3, 6, 9, 10, 5, 77, 7, 7, 7, 7, 1)
	if d.below(25) == 0 {
		code = 2
	}
	b := optionBytes(code, data...)
	if code == 7 || code == 1 {
		for range d.below(4) {
			b = append(b, s.requestWords(s.x.p.extended)...)
		}
	}
	if d.below(300) == 0 {
		return optionHead(code, pick[uint32](d, 1000, max32))
	}
	return b
}

// requestWords throws for a request, mostly with a cookie of its own.
func (s *street) requestWords(extended bool) []byte {
	d := s.d
	s.cookie++
	q := asking(pick[uint16](d, 0, 0, 0, 0, 1, 1, 3, 4, 6, 7, 7, 7, 9), s.cookie, pick[uint64](d, 0, 512, max64, uint64(d.below(999))), pick[uint64](d, 0, 1, 20, uint64(d.below(100))), pick[uint16](d, 0, 0, 1, 4, 32))
	switch {
	case d.below(60) == 0:
		q.Type = 2
	case d.below(40) == 0:
		q.Cookie = uint64(d.below(int(s.cookie) + 1))
	case d.below(100) == 0:
		extended = !extended
	}
	if q.Type == 1 {
		q.Flags |= 32
	}
	if !extended && q.Type == 1 || extended && q.Flags&32 != 0 {
		q.Data = many(int(q.Length))
	}
	return spotted(d, requestBytes(q, extended))
}

// spotted turns a bit of some bytes now and then, mostly of a head.
func spotted(d *dice, b []byte) []byte {
	if d.below(90) == 0 && len(b) > 0 {
		b[pick(d, d.below(len(b)), d.below(min(len(b), 32)))] ^= 1 << d.below(8)
	}
	return b
}

// serverWords throws for what the server says next.
func (s *street) serverWords() []byte {
	d, p := s.d, s.x.p
	open := p.open()
	var b []byte
	switch {
	case !p.greeted:
		b = greetingBytes(pick[uint16](d, 3, 3, 3, 3, 1, 1, 0))
	case p.started && len(open) > 0:
		b = s.answerWords(open[d.below(len(open))])
	case !p.started && p.answered < len(p.options):
		b = s.replyWords(p.options[p.answered])
	case d.below(60) == 0:
		return many(1 + d.below(30))
	}
	return spotted(d, b)
}

func (s *street) replyWords(code uint32) []byte {
	d := s.d
	data := many(pick(d, 0, 0, 3, d.below(40)))
	part := map[uint32]uint32{3: 2, 6: 3, 7: 3, 9: 4, 10: 4}[code]
	switch n := d.below(40); {
	case code == 1:
		return exportBytes(uint64(d.below(9999)), uint16(d.below(9999)), s.x.p.flags[0] < 2)
	case n == 0:
		return replyBytes(code, uint32(d.below(6)), data...)
	case n == 1:
		return replyBytes(uint32(d.below(12)), 1)
	case n < 7:
		return replyBytes(code, 1<<31+uint32(d.below(12)), data...)
	case n < 20 && part > 0:
		return replyBytes(code, part, data...)
	}
	return replyBytes(code, 1, data...)
}

// answerWords throws for an answer to a request, or a part of one.
func (s *street) answerWords(n int) []byte {
	d, p := s.d, s.x.p
	q := p.list[n-1]
	cookie := q.Cookie
	if d.below(80) == 0 {
		cookie = uint64(d.below(int(s.cookie) + 2))
	}
	simple := !p.chunks || !p.extended && q.Type != 0 && q.Type != 7 && d.bool()
	if d.below(100) == 0 {
		simple = !simple
	}
	if simple {
		code := pick[uint32](d, 0, 0, 0, 5, 22)
		if code != 0 || q.Type != 0 || q.Length > 500 {
			return simpleBytes(code, cookie)
		}
		return simpleBytes(0, cookie, many(int(q.Length))...)
	}
	kind, size := s.chunkWords(q)
	flags := uint16(d.below(2))
	if kind == 0 {
		flags = 1
	}
	off := q.Offset
	if d.below(60) == 0 {
		flags, off = pick[uint16](d, 0, 1, 2, 3), off+uint64(d.below(2))
	}
	head := chunkHead(p.extended, flags, kind, cookie, off, uint64(size))
	if d.below(200) == 0 {
		return chunkHead(p.extended, flags, kind, cookie, off, pick[uint64](d, 500, max32, max64))
	}
	return lay(head, many(size))
}

// chunkWords throws for a chunk's type, and how many bytes it has.
func (s *street) chunkWords(q plainRequest) (uint16, int) {
	d := s.d
	status := uint16(5)
	least := 12
	if s.x.p.extended {
		status, least = 6, 24
	}
	switch n := d.below(40); {
	case n == 0:
		return pick[uint16](d, 0, 1, 2, 3, 4, 5, 6, 7, 32768, 32769, 32770, 32771), d.below(30)
	case n < 5:
		return 32769, 6 + d.below(10) - d.below(40)/39
	case n < 9:
		return 32770, 14 + d.below(10) - d.below(40)/39
	case n < 30 && q.Type == 0:
		return 1, 9 + d.below(30) - d.below(40)/39
	case q.Type == 0:
		return 2, 12 + d.below(40)/39
	case n < 32 && q.Type == 7:
		return status, least + d.below(30) - d.below(40)/39
	}
	return 0, d.below(40) / 39
}

// move lets some bytes of a side pass; behind the last of them the side says something anew.
func (s *street) move() ([]byte, bool, []api.Record) {
	d := s.d
	server := d.bool()
	row := &s.up
	if server {
		row = &s.down
	}
	if len(*row) == 0 {
		if server {
			*row = s.serverWords()
		} else if !s.x.p.started || len(s.x.p.open()) < 8 || d.below(8) == 0 {
			*row = s.clientWords()
		}
	}
	n := min(len(*row), pick(d, 1, 4, 15, 16, 28, len(*row), len(*row), len(*row), len(*row)))
	b := (*row)[:n]
	*row = (*row)[n:]
	return b, server, s.x.pass(server, b)
}

// count counts what was told.
func count(met map[string]int, p *plain, told []api.Record) {
	for _, r := range told {
		what := fmt.Sprintf("kind %d, server %v", r.Kind, r.Server)
		switch r.Kind {
		case api.RecReply:
			what += fmt.Sprintf(", last %v, refused %v", r.Last, r.Flags >= 1<<31)
		case api.RecAnswer:
			what += fmt.Sprintf(", chunks %v", p.chunks)
		case api.RecChunk:
			what += fmt.Sprintf(", type %d, extended %v", r.Code, p.extended)
		case api.RecRequest:
			what += fmt.Sprintf(", extended %v, disc %v", p.extended, r.N == 0)
		case api.RecWrong:
			what += fmt.Sprintf(", started %v, by a cookie %v", p.started, !r.Server && p.dead[ofServer])
		}
		met[what]++
	}
}

// P22.1 to P22.8: both sides say what is thrown for, in any pieces and any turns, held against the plain reading; all that can be told is met. Divided into other pieces the same Passes tell the same (P22.10).
func TestThrownTalks(t *testing.T) {
	d := dice(22)
	met := map[string]int{}
	for r := range 4000 {
		s := &street{d: &d, x: newTap(t, fmt.Sprint("run ", r))}
		again := newTap(t, fmt.Sprint("run ", r, ", in other pieces"))
		if d.bool() {
			for _, said := range pick(&d, forms()...).working() {
				s.x.pass(said.server, said.b)
				again.pass(said.server, said.b)
			}
		}
		for n := range 20 + d.below(120) {
			s.x.what = fmt.Sprintf("run %d, step %d", r, n)
			b, server, told := s.move()
			count(met, s.x.p, told)
			var other []api.Record
			for _, piece := range thrownPieces(&d, b) {
				other = append(other, again.pass(server, piece)...)
			}
			wantRecords(t, again.what, other, told)
			if t.Failed() {
				t.FailNow()
			}
			if s.x.p.dead[ofClient] && s.x.p.dead[ofServer] && d.below(4) == 0 {
				break
			}
		}
	}
	for _, what := range []string{
		"kind 1, server true", "kind 2, server false", "kind 3, server false", "kind 5, server true",
		"kind 4, server true, last false, refused false", "kind 4, server true, last true, refused false", "kind 4, server true, last true, refused true",
		"kind 6, server false, extended false, disc false", "kind 6, server false, extended false, disc true", "kind 6, server false, extended true, disc false", "kind 6, server false, extended true, disc true",
		"kind 7, server true, chunks false", "kind 7, server true, chunks true",
		"kind 8, server true, type 0, extended false", "kind 8, server true, type 1, extended false", "kind 8, server true, type 2, extended false", "kind 8, server true, type 5, extended false",
		"kind 8, server true, type 32769, extended false", "kind 8, server true, type 32770, extended false",
		"kind 8, server true, type 0, extended true", "kind 8, server true, type 1, extended true", "kind 8, server true, type 2, extended true", "kind 8, server true, type 6, extended true",
		"kind 8, server true, type 32769, extended true", "kind 8, server true, type 32770, extended true",
		"kind 9, server true, started false, by a cookie false", "kind 9, server true, started true, by a cookie false",
		"kind 9, server false, started false, by a cookie false", "kind 9, server false, started true, by a cookie false", "kind 9, server false, started true, by a cookie true",
	} {
		if met[what] < 40 {
			t.Errorf("%s: only %d times", what, met[what])
		}
	}
}

// P22.2, R1: bytes that nobody would say, in any turns.
func TestThrownBytes(t *testing.T) {
	d := dice(23)
	for r := range 300 {
		x := newTap(t, fmt.Sprint("run ", r))
		if d.bool() {
			for _, s := range pick(&d, forms()...).waiting(flush(1), read(2, 0, 9)) {
				x.pass(s.server, s.b)
			}
		}
		for range 1 + d.below(10) {
			b := make([]byte, d.below(80))
			for i := range b {
				b[i] = byte(d.below(256))
			}
			x.pass(d.bool(), b)
		}
	}
}

// R5, R9: several traces in turns: none knows of another.
func TestInTurns(t *testing.T) {
	d := dice(24)
	for r := range 40 {
		var streets []*street
		for i := range 5 {
			streets = append(streets, &street{d: &d, x: newTap(t, fmt.Sprintf("run %d, trace %d", r, i))})
		}
		for range 400 {
			streets[d.below(5)].move()
			streets[d.below(5)].x.look()
		}
		if t.Failed() {
			t.FailNow()
		}
	}
}
