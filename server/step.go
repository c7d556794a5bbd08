package server

import (
	"slices"

	"spindle/api"
	"spindle/conn"
)

// A deed is what a step of one kind does: to the whole server, or with the connection that the step names.
type deed struct {
	whole func(*Server, api.Step) api.Answer
	with  func(*served, api.Step) api.Answer
}

// deedOf gives the deed of a kind of step; an empty one of a kind that there is not.
func deedOf(kind api.StepKind) deed {
	table := [...]deed{
		api.SOpen:  {whole: (*Server).open},
		api.SFeed:  {with: (*served).feed},
		api.STake:  {with: (*served).take},
		api.SRun:   {with: (*served).run},
		api.SSend:  {with: (*served).send},
		api.SShut:  {with: (*served).shut},
		api.SWrite: {whole: (*Server).writeBack},
		api.SFault: {whole: (*Server).arm},
		api.SCrash: {whole: (*Server).fall},
		api.SStart: {whole: (*Server).rise},
		api.SClear: {whole: (*Server).clearMarks},
	}
	if kind < 0 || kind >= api.StepKind(len(table)) {
		return deed{}
	}
	return table[kind]
}

// Step does one step (P15.3).
func (s *Server) Step(x api.Step) api.Answer {
	if !s.usable() {
		return refused(api.ErrNil)
	}
	d := deedOf(x.Kind)
	switch {
	case d.whole == nil && d.with == nil:
		return refused(api.ErrStep)
	case !s.isUp() && x.Kind != api.SFault && x.Kind != api.SStart:
		return refused(api.ErrDown)
	case s.isUp() && x.Kind == api.SStart:
		return refused(api.ErrUp)
	case d.whole != nil:
		return d.whole(s, x)
	}
	return s.serve(d.with, x)
}

func refused(e api.Errno) api.Answer { return api.Answer{Err: e} }

// serve does a step with the connection that it names, which is there no more if it is over then.
func (s *Server) serve(do func(*served, api.Step) api.Answer, x api.Step) api.Answer {
	i := slices.IndexFunc(s.up.conns, func(c *served) bool { return c.number == x.Conn })
	if i < 0 {
		return refused(api.ErrConn)
	}
	c := s.up.conns[i]
	answer := do(c, x)
	if c.peer.Over() {
		s.up.conns = slices.Delete(s.up.conns, i, i+1)
	}
	return answer
}

// open lets a connection come (P15.4).
func (s *Server) open(api.Step) api.Answer {
	if len(s.up.conns) >= s.config.Conns {
		return refused(api.ErrConns)
	}
	// Exports that a disk's label tells, and limits that New took, are refused by no connection.
	peer, _ := conn.New(s.up.label.Exports, s.config.Limits)
	c := &served{number: s.next, peer: peer, machine: s.up}
	s.next++
	s.up.conns = append(s.up.conns, c)
	return api.Answer{Conn: c.number, Out: peer.Out()}
}

// writeBack writes one line back (P15.9).
func (s *Server) writeBack(api.Step) api.Answer {
	sector, e := s.up.cache.Back()
	if e != api.OK {
		return refused(e)
	}
	return api.Answer{N: sector}
}

// arm arms a fault of the disk (P15.9).
func (s *Server) arm(x api.Step) api.Answer { return api.Answer{Err: s.disk.Fault(x.Fault)} }

// fall lets the machine fall (P15.9).
func (s *Server) fall(x api.Step) api.Answer {
	s.disk.Crash(x.Keep)
	cut(s.up.conns) // how many tasks were lost no answer tells
	s.up = nil
	return api.Answer{}
}

// rise starts the machine again (P15.10).
func (s *Server) rise(api.Step) api.Answer {
	up, e := start(s.disk, s.config.Lines)
	s.up = up
	return api.Answer{Err: e}
}

// clearMarks takes the marks of a tracked export away (P15.9).
func (s *Server) clearMarks(x api.Step) api.Answer {
	if x.N < 0 || x.N >= len(s.up.stores) || s.up.stores[x.N].track == nil {
		return refused(api.ErrStep)
	}
	moved, e := s.up.stores[x.N].track.Clear()
	answer := api.Answer{Err: e}
	if moved {
		answer.N = 1
	}
	return answer
}
