package copier_test

import (
	"spindle/api"
	"spindle/client"
)

// plain is a copier as the chapter's words have it, one by one: each chunk knows of each of its bytes what is to be done with it, and how far it has come; what an answer leads to is told by the request that it answers.
type plain struct {
	plan   api.CopyPlan
	state  api.CopyState
	sides  [2]plainSide
	chunks []*plainChunk // those that were begun
	flush  *plainErrand
}

type plainSide struct {
	c     *client.Client
	mail  []byte
	notes []api.Meta
	begun bool
	size  uint64
}

type plainChunk struct {
	from, to uint64
	kinds    string // of each byte: d, z or s
	at       uint64 // how many of them are dealt with
	done     bool
	errand   *plainErrand
}

type plainErrand struct {
	side   int
	q      api.Request
	asked  bool // of this connection
	cookie uint64
	times  int
}

func newPlain(plan api.CopyPlan) *plain {
	p := &plain{plan: plan, state: api.CopyState{Phase: api.CopyBegin}}
	p.sides[0].c, p.sides[1].c = client.New(), client.New()
	return p
}

func (p *plain) ended() bool { return p.state.Phase >= api.CopyDone }

func (p *plain) hear(side int, b []byte) api.Errno {
	if side < 0 || side > 1 {
		return api.ErrSide
	}
	if p.ended() {
		return api.OK
	}
	for _, e := range p.sides[side].c.In(b) {
		if p.ended() {
			break
		}
		p.event(side, e)
	}
	return api.OK
}

func (p *plain) say(side int) []byte {
	if side < 0 || side > 1 {
		return nil
	}
	b := p.sides[side].mail
	p.sides[side].mail = nil
	return b
}

func (p *plain) lost(side int) api.Errno {
	if side < 0 || side > 1 {
		return api.ErrSide
	}
	if p.ended() {
		return api.OK
	}
	p.sides[side] = plainSide{c: client.New()}
	for _, r := range p.errands() {
		if r.side == side {
			r.asked = false
		}
	}
	return api.OK
}

// errands are those that there are, by rising chunks.
func (p *plain) errands() []*plainErrand {
	var out []*plainErrand
	for _, k := range p.chunks {
		if !k.done {
			out = append(out, k.errand)
		}
	}
	if p.flush != nil {
		out = append(out, p.flush)
	}
	return out
}

func (p *plain) event(side int, e api.Event) {
	s := &p.sides[side]
	ended := e.Kind == api.EvAck || e.Kind == api.EvRefused
	switch {
	case e.Kind == api.EvGreeting:
		b, _ := s.c.Flags(e.Flags & 3)
		s.mail = append(s.mail, b...)
		if side == 0 {
			b, _ = s.c.Option(api.OptStructured, nil)
			s.mail = append(s.mail, b...)
		} else {
			p.goOn(side)
		}
	case e.Kind == api.EvMeta:
		s.notes = append(s.notes, e.Meta)
	case e.Kind == api.EvAck && e.Option == api.OptStructured:
		b, _ := s.c.Meta(true, api.MetaRequest{Name: p.plan.Source, Queries: queriesOf(p.plan)})
		s.mail = append(s.mail, b...)
	case ended && (e.Option == api.OptStructured || e.Option == api.OptSetMeta):
		if e.Kind == api.EvRefused {
			s.notes = nil
		}
		p.goOn(side)
	case e.Kind == api.EvBroken, e.Kind == api.EvRefused && e.Option == api.OptGo:
		p.fail(side, 0, 0)
	case e.Kind == api.EvStart:
		s.begun, s.size = true, e.Info.Size
		p.started(side)
	case e.Kind == api.EvDone:
		p.done(side, e)
	}
}

// goOn asks GO.
func (p *plain) goOn(side int) {
	name := []string{p.plan.Source, p.plan.Target}[side]
	b, _ := p.sides[side].c.Info(true, api.InfoRequest{Name: name, Infos: []uint16{api.InfoBlock}})
	p.sides[side].mail = append(p.sides[side].mail, b...)
}

// noted tells the id of a context that the source has told.
func (p *plain) noted(name string) (uint32, bool) {
	id, ok := uint32(0), false
	for _, n := range p.sides[0].notes {
		if n.Name == name {
			id, ok = n.ID, true
		}
	}
	return id, ok
}

func (p *plain) fail(side int, code uint32, off uint64) {
	p.state.Phase, p.state.Side, p.state.Code, p.state.Off = api.CopyFailed, side, code, off
}

func (p *plain) started(side int) {
	from, to := &p.sides[0], &p.sides[1]
	_, marks := p.noted("spindle:dirty")
	lacks := p.plan.Dirty && !marks
	switch {
	case p.state.Phase != api.CopyBegin && side == 0 && (from.size != p.state.Size || lacks):
		p.fail(0, 0, 0)
	case p.state.Phase != api.CopyBegin && side == 1 && to.size < p.state.Size:
		p.fail(1, 0, 0)
	case p.state.Phase != api.CopyBegin:
		for _, r := range p.errands() {
			if r.side == side && !r.asked {
				p.ask(r)
			}
		}
	case from.begun && to.begun:
		p.state.Size = from.size
		switch {
		case p.state.Size == 0 || lacks:
			p.fail(0, 0, 0)
		case to.size < p.state.Size:
			p.fail(1, 0, 0)
		default:
			p.state.Phase = api.CopyWork
			p.beginChunks()
		}
	}
}

func (p *plain) beginChunks() {
	for {
		inWork, from := 0, uint64(0)
		for _, k := range p.chunks {
			if !k.done {
				inWork++
			}
			from = k.to
		}
		if inWork >= p.plan.Flight || from == p.state.Size {
			return
		}
		k := &plainChunk{from: from, to: p.state.Size}
		if p.state.Size-from > uint64(p.plan.Chunk) {
			k.to = from + uint64(p.plan.Chunk)
		}
		p.chunks = append(p.chunks, k)
		if _, ok := p.noted("base:allocation"); ok {
			p.errand(k, 0, api.CmdStatus, k.from, k.to, nil)
			continue
		}
		kinds := make([]byte, k.to-k.from)
		for i := range kinds {
			kinds[i] = 'd'
		}
		k.kinds = string(kinds)
		p.next(k)
	}
}

// errand gives a chunk an errand, and asks it.
func (p *plain) errand(k *plainChunk, side int, kind uint16, from, to uint64, data []byte) {
	k.errand = &plainErrand{side: side, q: api.Request{Type: kind, Offset: from, Length: to - from, Data: data}}
	p.ask(k.errand)
}

func (p *plain) ask(r *plainErrand) {
	s := &p.sides[r.side]
	if !s.begun {
		return
	}
	b, cookie, _ := s.c.Request(r.q)
	s.mail = append(s.mail, b...)
	r.asked, r.cookie = true, cookie
	r.times++
}

// part is the row of bytes alike that a chunk has come to.
func (k *plainChunk) part() (byte, uint64) {
	end := k.at
	for end < uint64(len(k.kinds)) && k.kinds[end] == k.kinds[k.at] {
		end++
	}
	return k.kinds[k.at], end
}

// next does what is to be done with a chunk's next part.
func (p *plain) next(k *plainChunk) {
	for k.at < k.to-k.from {
		kind, end := k.part()
		switch kind {
		case 's':
			p.state.Skipped += end - k.at
			k.at = end
		case 'z':
			p.errand(k, 1, api.CmdZeroes, k.from+k.at, k.from+end, nil)
			return
		default:
			p.errand(k, 0, api.CmdRead, k.from+k.at, k.from+end, nil)
			return
		}
	}
	k.done, k.errand = true, nil
	p.state.Done += k.to - k.from
	p.beginChunks()
	if p.state.Done == p.state.Size {
		p.state.Phase = api.CopyFlush
		p.flush = &plainErrand{side: 1, q: api.Request{Type: api.CmdFlush}}
		p.ask(p.flush)
	}
}

func (p *plain) done(side int, e api.Event) {
	for _, r := range p.errands() {
		if r.side != side || !r.asked || r.cookie != e.Cookie {
			continue
		}
		switch {
		case e.Code == 0:
			p.answered(r, e)
		case r.times == p.plan.Tries || r.times > p.plan.Tries:
			p.fail(side, e.Code, r.q.Offset)
		default:
			p.state.Again++
			p.ask(r)
		}
		return
	}
}

func (p *plain) answered(r *plainErrand, e api.Event) {
	if r == p.flush {
		for side := range p.sides {
			if s := &p.sides[side]; s.begun {
				b, _, _ := s.c.Request(api.Request{Type: api.CmdDisc})
				s.mail = append(s.mail, b...)
			}
		}
		p.state.Phase = api.CopyDone
		return
	}
	var k *plainChunk
	for _, other := range p.chunks {
		if other.errand == r {
			k = other
		}
	}
	switch r.q.Type {
	case api.CmdStatus:
		k.kinds = p.kinds(k, e.Status)
	case api.CmdRead:
		p.errand(k, 1, api.CmdWrite, r.q.Offset, r.q.Offset+r.q.Length, e.Data)
		return
	case api.CmdZeroes:
		p.state.Zeroed += r.q.Length
		k.at += r.q.Length
	case api.CmdWrite:
		p.state.Copied += r.q.Length
		k.at += r.q.Length
	}
	p.next(k)
}

// kinds tells of each byte of a chunk what is to be done with it.
func (p *plain) kinds(k *plainChunk, status []api.ContextRuns) string {
	base, dirty := p.flagsOf("base:allocation", status), p.flagsOf("spindle:dirty", status)
	b := make([]byte, k.to-k.from)
	for i := range b {
		b[i] = 'd'
		if i < len(base) && base[i]&2 != 0 {
			b[i] = 'z'
		}
		if p.plan.Dirty && i < len(dirty) && dirty[i]&1 == 0 {
			b[i] = 's'
		}
	}
	return string(b)
}

// flagsOf tells the flags of each byte that a context's runs reach.
func (p *plain) flagsOf(name string, status []api.ContextRuns) []uint64 {
	id, ok := p.noted(name)
	var out []uint64
	for _, s := range status {
		if !ok || s.Context != id {
			continue
		}
		for _, r := range s.Runs {
			for range r.Len {
				out = append(out, r.Flags)
			}
		}
	}
	return out
}
