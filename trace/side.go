package trace

import (
	"bytes"

	"spindle/api"
	"spindle/octet"
)

// A side is what the client or the server has said, as far as it was not looked at.
type side struct {
	held []byte
	over uint64                    // how many bytes of data are still to come, which are passed over; as long as there are any, nothing is held
	look func() (api.Record, bool) // what the next bytes are looked at as; nil: nothing more of the side is
}

// mostHead is one byte more than the longest head has.
const mostHead = api.ExportSize + api.ExportZeroes + 1

// say holds what was said, but for what is passed over.
func (s *side) say(b []byte) {
	if s.look != nil {
		s.held = append(s.held, b[s.pass(len(b)):]...)
	}
}

// pass tells how many of the next n bytes are passed over: all of them, or all that are left to pass over.
func (s *side) pass(n int) int {
	passed := min(uint64(n), s.over)
	s.over -= passed
	return int(passed)
}

// next tells the side's next record, if there is one.
func (s *side) next() (api.Record, bool) {
	if s.look == nil {
		return api.Record{}, false
	}
	return s.look()
}

// whole hands the first n bytes to what sees a record in them, if so many are held.
func (s *side) whole(n int, see func(head []byte) api.Record) (api.Record, bool) {
	if len(s.held) < n {
		return api.Record{}, false
	}
	return see(s.held[:n]), true
}

// cut lets a head go, and passes over so many bytes of data behind it.
func (s *side) cut(head []byte, data uint64) {
	s.over = data
	behind := s.held[len(head):]
	s.held = behind[s.pass(len(behind)):]
}

// end lets nothing more of the side be held or looked at.
func (s *side) end() { *s = side{} }

// wrong ends a side that has said what it may not.
func (s *side) wrong() api.Record {
	s.end()
	return api.Record{Kind: api.RecWrong}
}

// tidy copies the beginning of a head, so that the memory of all that stood ahead of it is free. Longer rows stay as they are: they wait for the other side, and a copy at each Pass would cost too much.
func (s *side) tidy() {
	if len(s.held) < mostHead {
		s.held = bytes.Clone(s.held)
	}
}

// number reads the number that four or eight bytes are.
func number(b []byte) uint64 {
	r := octet.NewReader(b)
	if r.Left() == 8 {
		v, _ := r.U64()
		return v
	}
	v, _ := r.U32()
	return uint64(v)
}
