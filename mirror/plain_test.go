package mirror_test

import (
	"testing"

	"spindle/api"
	"spindle/client"
	"spindle/extent"
	"spindle/wire"
)

// plain is a mirror as the chapter's words have it, one by one: nothing that a member was asked is ever struck out; what an answer leads to is told by what the request was asked for, and whether that is still being done.
type plain struct {
	plan    api.MirrorPlan
	members []plainMember
	number  int        // how many operations there were
	wait    []*plainOp // the first one is in work, if it has begun
	copy    *plainCopy
	over    []api.MirrorDone
}

type plainMember struct {
	c      *client.Client
	state  api.MemberState
	mail   []byte
	missed []api.Range
	asked  []plainAsk // of this connection
}

// A plainAsk is a request that a member was asked, for an operation or for a copying.
type plainAsk struct {
	q      api.Request
	cookie uint64
	op     *plainOp
	copy   *plainCopy
}

type plainOp struct {
	id    int
	q     api.Request
	begun bool
	of    [api.MaxMembers]string // of each member that was asked: "stale" or "whole" when it was, then "well", "whole and well" or "gone"
}

type plainCopy struct {
	from, to int
	flush    bool
	at       api.Range
}

func newPlain(plan api.MirrorPlan) *plain {
	p := &plain{plan: plan}
	for range plan.Members {
		p.members = append(p.members, plainMember{state: api.MemberOut})
	}
	return p
}

func (p *plain) is(k int, states ...api.MemberState) bool {
	for _, s := range states {
		if k >= 0 && k < len(p.members) && p.members[k].state == s {
			return true
		}
	}
	return false
}

func (p *plain) notOut(k int) bool {
	return p.is(k, api.MemberJoining, api.MemberStale, api.MemberWhole)
}

func (p *plain) open(k int) bool { return p.is(k, api.MemberStale, api.MemberWhole) }

// first is the least number of a member in that state; -1: there is none.
func (p *plain) first(s api.MemberState) int {
	for k := range p.members {
		if p.is(k, s) {
			return k
		}
	}
	return -1
}

func (p *plain) join(k int) api.Errno {
	if !p.is(k, api.MemberOut) {
		return api.ErrMember
	}
	p.members[k].c, p.members[k].state = client.New(), api.MemberJoining
	return api.OK
}

func (p *plain) hear(k int, b []byte) api.Errno {
	if !p.notOut(k) {
		return api.ErrMember
	}
	for _, e := range p.members[k].c.In(b) {
		if p.notOut(k) {
			p.event(k, e)
			p.next()
		}
	}
	return api.OK
}

func (p *plain) event(k int, e api.Event) {
	x := &p.members[k]
	switch {
	case e.Kind == api.EvGreeting:
		flags, _ := x.c.Flags(e.Flags & 3)
		ask, _ := x.c.Info(true, api.InfoRequest{Name: p.plan.Name, Infos: []uint16{api.InfoBlock}})
		x.mail = append(append(x.mail, flags...), ask...)
	case e.Kind == api.EvStart && e.Info.Size >= p.plan.Size:
		x.state = api.MemberWhole
		if len(x.missed) > 0 {
			x.state = api.MemberStale
		}
	case e.Kind == api.EvStart, e.Kind == api.EvRefused, e.Kind == api.EvBroken:
		p.drop(k)
	case e.Kind == api.EvDone:
		for _, a := range x.asked {
			if a.cookie == e.Cookie {
				p.answer(k, a, e)
			}
		}
	}
}

func (p *plain) say(k int) []byte {
	if k < 0 || k >= len(p.members) {
		return nil
	}
	b := p.members[k].mail
	p.members[k].mail = nil
	return b
}

func (p *plain) lost(k int) api.Errno {
	if !p.notOut(k) {
		return api.ErrMember
	}
	p.drop(k)
	p.next()
	return api.OK
}

func (p *plain) trust(k int) api.Errno {
	if !p.is(k, api.MemberStale) || p.first(api.MemberWhole) >= 0 || p.inWork() != nil {
		return api.ErrMember
	}
	for other := range p.members {
		if other != k && p.notOut(other) {
			p.drop(other)
		}
	}
	for other := range p.members {
		p.members[other].missed = []api.Range{{Lo: 0, Hi: int64(p.plan.Size)}}
	}
	p.members[k].missed, p.members[k].state = nil, api.MemberWhole
	p.next()
	return api.OK
}

func (p *plain) add(kind uint16, off, n uint64, data []byte) (int, api.Errno) {
	end := off + n
	switch {
	case kind != api.CmdFlush && n == 0:
		return 0, api.ErrArg
	case (kind == api.CmdRead || kind == api.CmdWrite) && n > uint64(p.plan.Chunk):
		return 0, api.ErrLong
	case end < off || end > p.plan.Size:
		return 0, api.ErrBounds
	case len(p.wait) >= 64:
		return 0, api.ErrBusy
	}
	p.number++
	p.wait = append(p.wait, &plainOp{id: p.number, q: api.Request{Type: kind, Offset: off, Length: n, Data: append([]byte(nil), data...)}})
	p.next()
	return p.number, api.OK
}

func (p *plain) inWork() *plainOp {
	if len(p.wait) > 0 && p.wait[0].begun {
		return p.wait[0]
	}
	return nil
}

func (o *plainOp) place() []api.Range {
	return []api.Range{{Lo: int64(o.q.Offset), Hi: int64(o.q.Offset + o.q.Length)}}
}

func (o *plainOp) changes() bool { return o.q.Type == api.CmdWrite || o.q.Type == api.CmdZeroes }

// next does what may be begun now.
func (p *plain) next() {
	for p.copy == nil && p.inWork() == nil && len(p.wait) > 0 {
		p.begin()
	}
	if p.copy == nil && p.inWork() == nil {
		p.copying()
	}
}

func (p *plain) begin() {
	o := p.wait[0]
	o.begun = true
	reader := p.first(api.MemberWhole)
	if reader < 0 {
		p.ends(api.EIO, nil)
		return
	}
	for k := range p.members {
		switch {
		case o.q.Type == api.CmdRead && k == reader, o.q.Type != api.CmdRead && p.open(k):
			p.askFor(k, o)
		case o.changes():
			p.members[k].missed = extent.Union(p.members[k].missed, o.place())
		}
	}
}

func (p *plain) askFor(k int, o *plainOp) {
	o.of[k] = "stale"
	if p.is(k, api.MemberWhole) {
		o.of[k] = "whole"
	}
	p.ask(k, plainAsk{q: o.q, op: o})
}

func (p *plain) ask(k int, a plainAsk) {
	x := &p.members[k]
	b, cookie, _ := x.c.Request(a.q)
	a.cookie = cookie
	x.mail = append(x.mail, b...)
	x.asked = append(x.asked, a)
}

func (p *plain) ends(code uint32, data []byte) {
	p.over = append(p.over, api.MirrorDone{ID: p.wait[0].id, Code: code, Data: data})
	p.wait = p.wait[1:]
}

func (p *plain) answer(k int, a plainAsk, e api.Event) {
	if a.op != nil && a.op == p.inWork() || a.copy != nil && a.copy == p.copy {
		if e.Code != 0 {
			p.drop(k)
		} else if a.op != nil {
			p.answerOp(k, a.op, e)
		} else {
			p.answerCopy(a, e)
		}
	}
}

func (p *plain) answerOp(k int, o *plainOp, e api.Event) {
	if o.q.Type == api.CmdRead {
		p.ends(0, e.Data)
		return
	}
	if o.changes() {
		p.members[k].missed = extent.Minus(p.members[k].missed, o.place())
	}
	if o.of[k] == "whole" {
		o.of[k] = "whole and well"
	} else {
		o.of[k] = "well"
	}
	p.endsIfAnswered(o)
}

func (p *plain) endsIfAnswered(o *plainOp) {
	code := api.EIO
	for _, s := range o.of {
		switch s {
		case "stale", "whole":
			return
		case "whole and well":
			code = 0
		}
	}
	p.ends(code, nil)
}

func (p *plain) drop(k int) {
	x := &p.members[k]
	*x = plainMember{state: api.MemberOut, missed: x.missed}
	if c := p.copy; c != nil && (c.to == k || !c.flush && c.from == k) {
		p.copy = nil
	}
	o := p.inWork()
	if o == nil || o.of[k] != "stale" && o.of[k] != "whole" {
		return
	}
	o.of[k] = "gone"
	if o.changes() {
		x.missed = extent.Union(x.missed, o.place())
	}
	if o.q.Type != api.CmdRead {
		p.endsIfAnswered(o)
	} else if reader := p.first(api.MemberWhole); reader >= 0 {
		p.askFor(reader, o)
	} else {
		p.ends(api.EIO, nil)
	}
}

// copying begins one, if there may be one.
func (p *plain) copying() {
	from, to := p.first(api.MemberWhole), p.first(api.MemberStale)
	if from < 0 || to < 0 {
		return
	}
	p.copy = &plainCopy{from: from, to: to}
	if missed := p.members[to].missed; len(missed) > 0 {
		p.copy.at = missed[0]
		if p.copy.at.Hi-p.copy.at.Lo > int64(p.plan.Chunk) {
			p.copy.at.Hi = p.copy.at.Lo + int64(p.plan.Chunk)
		}
		p.ask(from, plainAsk{q: p.copy.request(api.CmdRead, nil), copy: p.copy})
		return
	}
	p.copy.flush = true
	p.ask(to, plainAsk{q: api.Request{Type: api.CmdFlush}, copy: p.copy})
}

func (c *plainCopy) request(kind uint16, data []byte) api.Request {
	return api.Request{Type: kind, Offset: uint64(c.at.Lo), Length: uint64(c.at.Hi - c.at.Lo), Data: data}
}

func (p *plain) answerCopy(a plainAsk, e api.Event) {
	c := p.copy
	to := &p.members[c.to]
	switch a.q.Type {
	case api.CmdRead:
		p.ask(c.to, plainAsk{q: c.request(api.CmdWrite, e.Data), copy: c})
	case api.CmdWrite:
		to.missed = extent.Minus(to.missed, []api.Range{c.at})
		p.copy = nil
	case api.CmdFlush:
		to.state = api.MemberWhole
		p.copy = nil
	}
}

func (p *plain) ended() []api.MirrorDone {
	list := p.over
	p.over = nil
	return list
}

func (p *plain) look() api.MirrorLook {
	l := api.MirrorLook{Waiting: len(p.wait), Copying: -1}
	for _, x := range p.members {
		l.Members = append(l.Members, x.state)
		l.Missed = append(l.Missed, extent.Normal(x.missed))
	}
	if p.copy != nil {
		l.Copying = p.copy.to
	}
	return l
}

// requestsIn takes apart what a member in the transmission has said.
func requestsIn(t *testing.T, b []byte) []api.Request {
	t.Helper()
	var list []api.Request
	for len(b) > 0 {
		q, n, e := wire.DecodeRequest(b, api.MaxPayload, false)
		if e != api.OK {
			t.Fatalf("error %d of % x", e, b[:min(80, len(b))])
		}
		list = append(list, q)
		b = b[n:]
	}
	return list
}
