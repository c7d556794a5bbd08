package conn_test

import (
	"encoding/binary"
	"slices"

	"spindle/api"
	"spindle/nego"
	"spindle/reply"
	"spindle/rule"
)

// plain is a connection as the chapter's words have it, one by one: an inbox that is a row of bytes, a table that is a list. What it does not tell itself nego, rule and reply do.
type plain struct {
	exports []api.Export
	limits  api.Limits
	talk    *nego.Talk
	phase   api.ConnPhase
	in      []byte
	over    int // so many bytes are to be passed over
	out     []byte
	tasks   []api.Entry
	given   int
}

func newPlain(exports []api.Export, l api.Limits) *plain {
	talk, _ := nego.New(exports, l)
	return &plain{exports: slices.Clone(exports), limits: l, talk: talk, phase: api.PhaseFlags, out: greeting()}
}

func (p *plain) room() int { return int(max(p.limits.Payload, p.limits.Option)) + 32 - len(p.in) }

func (p *plain) feed(b []byte) int {
	if p.phase > api.PhaseWork {
		return 0
	}
	passed := min(p.over, len(b))
	p.over -= passed
	kept := min(len(b)-passed, p.room())
	p.in = append(p.in, b[passed:passed+kept]...)
	return passed + kept
}

// cut takes n bytes out of the inbox.
func (p *plain) cut(n int) []byte {
	b := slices.Clone(p.in[:n])
	p.in = slices.Clone(p.in[n:])
	return b
}

func (p *plain) end(code uint32) api.Took {
	p.phase, p.in, p.over, p.tasks = api.PhaseOver, nil, 0, nil
	return api.Took{Kind: api.TookEnd, Code: code}
}

func (p *plain) take() api.Took {
	switch p.phase {
	case api.PhaseFlags:
		return p.takeFlags()
	case api.PhaseOptions:
		return p.takeOption()
	case api.PhaseWork:
		return p.takeRequest()
	}
	return api.Took{}
}

func (p *plain) takeFlags() api.Took {
	if len(p.in) < 4 {
		return api.Took{}
	}
	f := binary.BigEndian.Uint32(p.cut(4))
	if f > 3 {
		return p.end(0)
	}
	p.talk.Flags(f)
	p.phase = api.PhaseOptions
	return api.Took{Kind: api.TookFlags}
}

func (p *plain) takeOption() api.Took {
	if p.over > 0 || len(p.in) < 16 {
		return api.Took{}
	}
	if string(p.in[:8]) != "IHAVEOPT" {
		return p.end(0)
	}
	o := api.Option{Code: binary.BigEndian.Uint32(p.in[8:]), Len: binary.BigEndian.Uint32(p.in[12:])}
	if o.Len > p.limits.Option {
		p.cut(16)
		o.Long = true
		held := min(len(p.in), int(o.Len))
		p.cut(held)
		p.over = int(o.Len) - held
	} else {
		if len(p.in) < 16+int(o.Len) {
			return api.Took{}
		}
		o.Data = p.cut(16 + int(o.Len))[16:]
	}
	replies, step, _ := p.talk.Option(o)
	for _, r := range replies {
		p.out = append(p.out, replyBytes(r.Option, r.Kind, r.Data...)...)
	}
	if step.Kind == api.NegoEnd {
		return p.end(o.Code)
	}
	if step.Kind == api.NegoStart {
		p.phase = api.PhaseWork
	}
	if step.Old {
		p.out = append(p.out, lay(step.Export.Size, step.Export.Flags)...)
		if step.Zeroes {
			p.out = append(p.out, make([]byte, 124)...)
		}
	}
	return api.Took{Kind: api.TookOption, Code: o.Code}
}

func (p *plain) takeRequest() api.Took {
	s := p.talk.Session()
	head, magic := 28, uint32(0x25609513)
	if s.Extended {
		head, magic = 32, 0x21e41c71
	}
	if len(p.tasks) == p.limits.Flight || len(p.in) < head {
		return api.Took{}
	}
	if binary.BigEndian.Uint32(p.in) != magic {
		return p.end(0)
	}
	q := api.Request{Flags: binary.BigEndian.Uint16(p.in[4:]), Type: binary.BigEndian.Uint16(p.in[6:]), Cookie: binary.BigEndian.Uint64(p.in[8:]), Offset: binary.BigEndian.Uint64(p.in[16:])}
	carries := q.Type == 1
	if s.Extended {
		q.Length = binary.BigEndian.Uint64(p.in[24:])
		carries = q.Flags&32 != 0
	} else {
		q.Length = uint64(binary.BigEndian.Uint32(p.in[24:]))
	}
	if carries && q.Length > uint64(p.limits.Payload) {
		return p.end(0)
	}
	if carries {
		if len(p.in) < head+int(q.Length) {
			return api.Took{}
		}
		q.Data = slices.Clone(p.in[head : head+int(q.Length)])
	}
	p.cut(head + len(q.Data))
	if q.Type == 2 {
		if len(p.tasks) == 0 {
			return p.end(0)
		}
		p.phase, p.in = api.PhaseDrain, nil
		return api.Took{Kind: api.TookEnd}
	}
	p.given++
	entry := api.Entry{ID: p.given, Req: q}
	if code := rule.Check(p.exports[s.Index], s, p.limits, q); code != 0 {
		entry.Ready = true
		entry.Answer, _ = reply.Bytes(s, q, api.Outcome{Code: code})
	}
	p.tasks = append(p.tasks, entry)
	return api.Took{Kind: api.TookRequest, Task: api.Task{ID: entry.ID, Req: q}, Refused: entry.Ready}
}

// at tells where the task of a number stands in the list, if it is ready or not, as asked; -1 of none.
func (p *plain) at(id int, ready bool) int {
	return slices.IndexFunc(p.tasks, func(e api.Entry) bool { return e.ID == id && e.Ready == ready })
}

func (p *plain) task(id int) (api.Task, api.Errno) {
	i := p.at(id, false)
	if i < 0 {
		return api.Task{}, api.ErrTask
	}
	return api.Task{ID: id, Req: p.tasks[i].Req}, api.OK
}

func (p *plain) finish(id int, o api.Outcome) api.Errno {
	i := p.at(id, false)
	if i < 0 {
		return api.ErrTask
	}
	answer, e := reply.Bytes(p.talk.Session(), p.tasks[i].Req, o)
	if e != api.OK {
		return api.ErrOutcome
	}
	p.tasks[i].Ready, p.tasks[i].Answer = true, answer
	return api.OK
}

func (p *plain) send(id int) api.Errno {
	i := p.at(id, true)
	if i < 0 {
		return api.ErrTask
	}
	p.out = append(p.out, p.tasks[i].Answer...)
	p.tasks = slices.Delete(p.tasks, i, i+1)
	if p.phase == api.PhaseDrain && len(p.tasks) == 0 {
		p.end(0)
	}
	return api.OK
}

func (p *plain) takeOut() []byte {
	b := p.out
	p.out = nil
	return b
}

func (p *plain) shut() {
	p.end(0)
	p.out = nil
}

func (p *plain) numbers(ready bool) []int {
	var out []int
	for _, e := range p.tasks {
		if e.Ready == ready {
			out = append(out, e.ID)
		}
	}
	return out
}

func (p *plain) look() api.ConnLook {
	return api.ConnLook{Phase: p.phase, Session: p.talk.Session(), Inbox: len(p.in), Outbox: len(p.out), Pending: p.numbers(false), Ready: p.numbers(true), Next: p.given + 1}
}
