package client_test

import (
	"encoding/binary"
	"slices"
	"strings"
	"unicode/utf8"

	"spindle/api"
)

// plain is a client as the chapter's words have it, one by one: all bytes that were heard and not cut are a row, reckoned by places; of a read each byte stands for itself.
type plain struct {
	phase            api.ClientPhase
	greeted          bool
	offered, said    uint32
	in               []byte
	option           []uint32 // the outstanding one, or none
	infos            int
	export           api.Info
	metas            []uint32
	chunks, extended bool
	chosen           []uint32
	aborted          bool
	cookie           uint64
	list             []*plainRequest
}

type plainRequest struct {
	api.Outstanding
	flags  uint16
	error  uint32
	tells  int // chunks that told bytes
	told   []int
	bytes  []byte
	status []api.ContextRuns
}

func newPlain() *plain { return &plain{phase: api.ClientGreeting} }

func at16(b []byte, at int) uint16 { return binary.BigEndian.Uint16(b[at:]) }
func at32(b []byte, at int) uint32 { return binary.BigEndian.Uint32(b[at:]) }
func at64(b []byte, at int) uint64 { return binary.BigEndian.Uint64(b[at:]) }

func isText(s string) bool {
	return len(s) <= 4096 && utf8.ValidString(s) && !strings.Contains(s, "\x00")
}

func (p *plain) setFlags(f uint32) ([]byte, api.Errno) {
	if p.phase != api.ClientGreeting || !p.greeted {
		return nil, api.ErrAsk
	}
	if f&p.offered != f {
		return nil, api.ErrFlags
	}
	p.said, p.phase = f, api.ClientOptions
	return lay(f), api.OK
}

func (p *plain) ask(code uint32, data []byte) ([]byte, api.Errno) {
	if p.phase != api.ClientOptions || len(p.option) == 1 || p.said%2 == 0 && code != 1 {
		return nil, api.ErrAsk
	}
	if len(data) > 65536 {
		return nil, api.ErrLong
	}
	p.option, p.infos, p.export, p.metas = []uint32{code}, 0, api.Info{}, nil
	return optionBytes(code, data...), api.OK
}

func (p *plain) info(start bool, r api.InfoRequest) ([]byte, api.Errno) {
	code := uint32(6)
	if start {
		code = 7
	}
	if !isText(r.Name) {
		return nil, api.ErrForm
	}
	if len(r.Infos) > 64 {
		return nil, api.ErrMany
	}
	return p.ask(code, infoData(r.Name, r.Infos...))
}

func (p *plain) meta(set bool, r api.MetaRequest) ([]byte, api.Errno) {
	code := uint32(9)
	if set {
		code = 10
	}
	for _, s := range append([]string{r.Name}, r.Queries...) {
		if !isText(s) {
			return nil, api.ErrForm
		}
	}
	if len(r.Queries) > 16 {
		return nil, api.ErrMany
	}
	return p.ask(code, metaData(r.Name, r.Queries...))
}

func (p *plain) request(r api.Request) ([]byte, uint64, api.Errno) {
	if p.phase != api.ClientWork {
		return nil, 0, api.ErrAsk
	}
	if r.Type <= 1 && r.Length > 1048576 {
		return nil, 0, api.ErrLong
	}
	paid := r.Type == 1
	if p.extended {
		if r.Type == 1 {
			r.Flags |= 32
		}
		paid = r.Flags&32 != 0
	}
	if paid && r.Length != uint64(len(r.Data)) || !paid && len(r.Data) > 0 || !p.extended && r.Length > max32 {
		return nil, 0, api.ErrForm
	}
	p.cookie++
	r.Cookie = p.cookie
	if r.Type == 2 {
		p.phase = api.ClientClosing
	} else {
		q := &plainRequest{Outstanding: outstanding(r.Cookie, r), flags: r.Flags}
		if r.Type == 0 {
			q.told, q.bytes = make([]int, r.Length), make([]byte, r.Length)
		}
		p.list = append(p.list, q)
	}
	return requestBytes(r, p.extended), r.Cookie, api.OK
}

func (p *plain) outstanding() []api.Outstanding {
	var out []api.Outstanding
	for _, q := range p.list {
		out = append(out, q.Outstanding)
	}
	return out
}

// hear hears bytes.
func (p *plain) hear(b []byte) []api.Event {
	if p.phase == api.ClientBroken {
		return nil
	}
	p.in = append(p.in, b...)
	var out []api.Event
	for {
		events, n, ok := p.next()
		if !ok {
			p.phase, p.in = api.ClientBroken, nil
			return append(out, api.Event{Kind: api.EvBroken})
		}
		if n == 0 {
			return out
		}
		p.in = p.in[n:]
		out = append(out, events...)
	}
}

// next hears what stands at the front, if it is whole: what it tells, how many bytes it has (0: more are needed), and whether it may be.
func (p *plain) next() ([]api.Event, int, bool) {
	switch {
	case p.phase == api.ClientGreeting && !p.greeted:
		return p.nextGreeting()
	case p.phase == api.ClientOptions && len(p.option) == 1 && p.option[0] == 1:
		return p.nextExport()
	case p.phase == api.ClientOptions && len(p.option) == 1:
		return p.nextReply()
	case p.phase == api.ClientWork || p.phase == api.ClientClosing && !p.aborted:
		return p.nextAnswer()
	}
	return nil, 0, len(p.in) == 0
}

func (p *plain) nextGreeting() ([]api.Event, int, bool) {
	if len(p.in) < 18 {
		return nil, 0, true
	}
	f := at16(p.in, 16)
	if string(p.in[:16]) != "NBDMAGICIHAVEOPT" || f != 1 && f != 3 {
		return nil, 0, false
	}
	p.greeted, p.offered = true, uint32(f)
	return []api.Event{{Kind: api.EvGreeting, Flags: uint32(f)}}, 18, true
}

func (p *plain) nextExport() ([]api.Event, int, bool) {
	size := 134
	if p.said&2 != 0 {
		size = 10
	}
	if len(p.in) < size {
		return nil, 0, true
	}
	for _, b := range p.in[10:size] {
		if b != 0 {
			return nil, 0, false
		}
	}
	p.option, p.phase = nil, api.ClientWork
	return []api.Event{started(at64(p.in, 0), at16(p.in, 8))}, size, true
}

func (p *plain) nextReply() ([]api.Event, int, bool) {
	if len(p.in) < 20 {
		return nil, 0, true
	}
	option, kind, length := at32(p.in, 8), at32(p.in, 12), at32(p.in, 16)
	if at64(p.in, 0) != 0x3e889045565a9 || length > 65536 {
		return nil, 0, false
	}
	size := 20 + int(length)
	if len(p.in) < size {
		return nil, 0, true
	}
	if option != p.option[0] {
		return nil, 0, false
	}
	events, ok := p.reply(kind, slices.Clone(p.in[20:size]))
	return events, size, ok
}

// reply is what an answer of some kind tells, and whether it may be.
func (p *plain) reply(kind uint32, b []byte) ([]api.Event, bool) {
	code := p.option[0]
	e := api.Event{Option: code}
	switch {
	case kind >= 1<<31:
		if code == 10 {
			p.chosen = nil
		}
		p.option = nil
		e.Kind, e.Code = api.EvRefused, kind
	case kind == 2 && code == 3:
		if len(b) < 4 || uint64(at32(b, 0)) > uint64(len(b)-4) || !isText(string(b[4:4+at32(b, 0)])) {
			return nil, false
		}
		e.Kind, e.Text = api.EvExport, string(b[4:4+at32(b, 0)])
	case kind == 3 && (code == 6 || code == 7):
		i, ok := plainInfo(b)
		p.infos++
		if !ok || (p.infos == 1) != (i.Kind == 0) {
			return nil, false
		}
		if p.infos == 1 {
			p.export = i
		}
		e.Kind, e.Info = api.EvInfo, i
	case kind == 4 && (code == 9 || code == 10):
		if len(b) < 4 || !isText(string(b[4:])) || code == 10 && (slices.Contains(p.metas, at32(b, 0)) || len(p.metas) == 16) {
			return nil, false
		}
		p.metas = append(p.metas, at32(b, 0))
		e.Kind, e.Meta = api.EvMeta, api.Meta{ID: at32(b, 0), Name: string(b[4:])}
	case kind == 1:
		return p.acknowledge(len(b))
	default:
		return nil, false
	}
	return []api.Event{e}, true
}

func (p *plain) acknowledge(data int) ([]api.Event, bool) {
	code := p.option[0]
	if data > 0 || (code == 6 || code == 7) && p.infos == 0 {
		return nil, false
	}
	p.option = nil
	out := []api.Event{{Kind: api.EvAck, Option: code}}
	switch code {
	case 2:
		p.phase, p.aborted = api.ClientClosing, true
	case 7:
		p.phase = api.ClientWork
		out = append(out, started(p.export.Size, p.export.Flags))
	case 8:
		p.chunks = true
	case 10:
		p.chosen = p.metas
	case 11:
		p.chunks, p.extended = true, true
	}
	return out, true
}

func plainInfo(b []byte) (api.Info, bool) {
	if len(b) < 2 {
		return api.Info{}, false
	}
	i := api.Info{Kind: at16(b, 0)}
	switch {
	case i.Kind == 0 && len(b) == 12:
		i.Size, i.Flags = at64(b, 2), at16(b, 10)
	case (i.Kind == 1 || i.Kind == 2) && isText(string(b[2:])):
		i.Text = string(b[2:])
	case i.Kind == 3 && len(b) == 14:
		i.Min, i.Pref, i.Max = at32(b, 2), at32(b, 6), at32(b, 10)
	case i.Kind > 3:
		i.Data = b[2:]
	default:
		return api.Info{}, false
	}
	return i, true
}

func (p *plain) nextAnswer() ([]api.Event, int, bool) {
	if len(p.in) < 4 {
		return nil, 0, true
	}
	switch magic := at32(p.in, 0); {
	case magic == 0x67446698 && !p.extended:
		return p.nextSimple()
	case magic == 0x668e33ef && !p.extended:
		if len(p.in) < 20 {
			return nil, 0, true
		}
		return p.nextChunk(20, 0, uint64(at32(p.in, 16)))
	case magic == 0x6e8a278c && p.extended:
		if len(p.in) < 32 {
			return nil, 0, true
		}
		return p.nextChunk(32, at64(p.in, 16), at64(p.in, 24))
	}
	return nil, 0, false
}

// find gives the outstanding request of a cookie, or nil.
func (p *plain) find(cookie uint64) *plainRequest {
	for _, q := range p.list {
		if q.Cookie == cookie {
			return q
		}
	}
	return nil
}

func (p *plain) end(q *plainRequest, e api.Event) []api.Event {
	p.list = slices.DeleteFunc(slices.Clone(p.list), func(o *plainRequest) bool { return o == q })
	e.Kind, e.Cookie = api.EvDone, q.Cookie
	return []api.Event{e}
}

func (p *plain) nextSimple() ([]api.Event, int, bool) {
	if len(p.in) < 16 {
		return nil, 0, true
	}
	code := at32(p.in, 4)
	q := p.find(at64(p.in, 8))
	if q == nil || p.chunks && (q.Type == 0 || q.Type == 7) {
		return nil, 0, false
	}
	size := 16
	if q.Type == 0 && code == 0 {
		size += int(q.Length)
	}
	if len(p.in) < size {
		return nil, 0, true
	}
	return p.end(q, api.Event{Code: code, Data: slices.Clone(p.in[16:size])}), size, true
}

func (p *plain) nextChunk(head int, off, length uint64) ([]api.Event, int, bool) {
	if length > 1048592 {
		return nil, 0, false
	}
	size := head + int(length)
	if len(p.in) < size {
		return nil, 0, true
	}
	flags, kind := at16(p.in, 4), at16(p.in, 6)
	q := p.find(at64(p.in, 8))
	if q == nil || !p.chunks || flags > 1 || p.extended && off != q.Offset || !p.body(q, flags == 1, kind, slices.Clone(p.in[head:size])) {
		return nil, 0, false
	}
	if flags == 0 {
		return nil, size, true
	}
	e := api.Event{Code: q.error}
	if q.error == 0 {
		if slices.Contains(q.told, 0) || q.Type == 7 && len(q.status) != len(p.chosen) {
			return nil, 0, false
		}
		e.Data, e.Status = q.bytes, q.status
	}
	return p.end(q, e), size, true
}

// body takes the body of a chunk, and tells whether it may be.
func (p *plain) body(q *plainRequest, last bool, kind uint16, b []byte) bool {
	status := uint16(5)
	if p.extended {
		status = 6
	}
	switch kind {
	case 0:
		return last && len(b) == 0
	case 1:
		return q.Type == 0 && len(b) > 8 && (q.flags&4 == 0 || q.tells == 0) && q.lay(at64(b, 0), b[8:])
	case 2:
		return q.Type == 0 && len(b) == 12 && at32(b, 8) > 0 && at32(b, 8) <= 1048576 && q.flags&4 == 0 && q.lay(at64(b, 0), make([]byte, at32(b, 8)))
	case status:
		return q.Type == 7 && p.takesStatus(q, b)
	case 32769:
		return q.takesError(b, len(b))
	case 32770:
		if len(b) < 8 {
			return false
		}
		at := at64(b, len(b)-8)
		return at >= q.Offset && at-q.Offset < q.Length && q.takesError(b, len(b)-8)
	}
	return false
}

// lay lays bytes of a read down, one by one.
func (q *plainRequest) lay(off uint64, b []byte) bool {
	q.tells++
	if off < q.Offset || off-q.Offset >= q.Length {
		return false
	}
	for i, v := range b {
		at := off - q.Offset + uint64(i)
		if at >= q.Length || q.told[at] > 0 {
			return false
		}
		q.told[at]++
		q.bytes[at] = v
	}
	return true
}

func (q *plainRequest) takesError(b []byte, size int) bool {
	if size < 6 || size != 6+int(at16(b, 4)) || !isText(string(b[6:size])) || at32(b, 0) == 0 {
		return false
	}
	if q.error == 0 {
		q.error = at32(b, 0)
	}
	return true
}

func (p *plain) takesStatus(q *plainRequest, b []byte) bool {
	head, width := 4, 4
	if p.extended {
		head, width = 8, 8
	}
	if len(b) < head+2*width || (len(b)-head)%(2*width) != 0 || p.extended && int(at32(b, 4)) != (len(b)-head)/16 {
		return false
	}
	s := api.ContextRuns{Context: at32(b, 0)}
	sum := uint64(0)
	for at := head; at < len(b); at += 2 * width {
		r := api.StatusRun{Len: uint64(at32(b, at)), Flags: uint64(at32(b, at+4))}
		if p.extended {
			r = api.StatusRun{Len: at64(b, at), Flags: at64(b, at+8)}
		}
		if r.Len == 0 || sum+r.Len < sum || sum+r.Len > q.Length {
			return false
		}
		sum += r.Len
		s.Runs = append(s.Runs, r)
	}
	if q.flags&8 != 0 && len(s.Runs) > 1 || !slices.Contains(p.chosen, s.Context) {
		return false
	}
	for _, other := range q.status {
		if other.Context == s.Context {
			return false
		}
	}
	q.status = append(q.status, s)
	return true
}
