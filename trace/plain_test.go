package trace_test

import (
	"encoding/binary"
	"fmt"
	"slices"

	"spindle/api"
)

// plain is a trace as the chapter's words have it, one by one: all that a side ever said is a row, in which a place tells what was not looked at yet; what is counted is reckoned out of all that was told.
type plain struct {
	said             [2][]byte // by the client, by the server
	at               [2]uint64 // a place beyond the end: data are still to come
	dead             [2]bool
	greeted          bool
	flags            []uint32 // the client's, or none
	options          []uint32 // all of them
	answered         int      // how many of them have had their last answer
	started, aborted bool
	chunks, extended bool
	list             []plainRequest
	told             []api.Record
}

type plainRequest struct {
	api.Request
	done bool
}

const (
	ofClient = 0
	ofServer = 1
)

func at16(b []byte, at int) uint16 { return binary.BigEndian.Uint16(b[at:]) }
func at32(b []byte, at int) uint32 { return binary.BigEndian.Uint32(b[at:]) }
func at64(b []byte, at int) uint64 { return binary.BigEndian.Uint64(b[at:]) }

func (p *plain) pass(server bool, b []byte) []api.Record {
	side := ofClient
	if server {
		side = ofServer
	}
	p.said[side] = append(p.said[side], b...)
	var out []api.Record
	for {
		r, ok := p.next(ofClient, p.clientSays)
		if !ok {
			r, ok = p.next(ofServer, p.serverSays)
			r.Server = true
		}
		if !ok {
			break
		}
		out = append(out, r)
	}
	p.told = append(p.told, out...)
	return out
}

// A finding is what stands at the beginning of some bytes: nothing yet (none), what may not be (bad), or a record, of a head of so many bytes with data behind it.
type finding struct {
	none, bad  bool
	r          api.Record
	head, data uint64
}

func (p *plain) next(side int, says func(b []byte) finding) (api.Record, bool) {
	if p.dead[side] || p.at[side] > uint64(len(p.said[side])) {
		return api.Record{}, false
	}
	f := says(p.said[side][p.at[side]:])
	switch {
	case f.none:
		return api.Record{}, false
	case f.bad:
		p.dead[side] = true
		return api.Record{Kind: api.RecWrong}, true
	}
	p.at[side] += f.head
	if f.data > max64-p.at[side] {
		p.at[side] = max64
	} else {
		p.at[side] += f.data
	}
	return f.r, true
}

func (p *plain) clientSays(b []byte) finding {
	switch {
	case len(p.flags) == 0:
		return p.saysFlags(b)
	case p.started:
		return p.saysRequest(b)
	}
	barred := false
	if n := len(p.options); n > p.answered {
		barred = p.options[n-1] == 7 || p.options[n-1] == 1 || p.options[n-1] == 2
	}
	if len(b) < 16 || barred || p.aborted {
		return finding{none: true}
	}
	if string(b[:8]) != "IHAVEOPT" {
		return finding{bad: true}
	}
	code, size := at32(b, 8), uint64(at32(b, 12))
	p.options = append(p.options, code)
	return finding{r: api.Record{Kind: api.RecOption, Code: code, Size: size}, head: 16, data: size}
}

func (p *plain) saysFlags(b []byte) finding {
	if len(b) < 4 {
		return finding{none: true}
	}
	f := at32(b, 0)
	if f > 3 {
		return finding{bad: true}
	}
	p.flags = []uint32{f}
	return finding{r: api.Record{Kind: api.RecFlags, Flags: f}, head: 4}
}

func (p *plain) saysRequest(b []byte) finding {
	head, magic := 28, uint32(0x25609513)
	if p.extended {
		head, magic = 32, 0x21e41c71
	}
	if len(b) < head {
		return finding{none: true}
	}
	if at32(b, 0) != magic {
		return finding{bad: true}
	}
	q := api.Request{Flags: at16(b, 4), Type: at16(b, 6), Cookie: at64(b, 8), Offset: at64(b, 16)}
	var data uint64
	if p.extended {
		q.Length = at64(b, 24)
		if q.Flags&32 != 0 {
			data = q.Length
		}
	} else {
		q.Length = uint64(at32(b, 24))
		if q.Type == 1 {
			data = q.Length
		}
	}
	f := finding{r: api.Record{Kind: api.RecRequest, Request: q, Size: data}, head: uint64(head), data: data}
	if q.Type == 2 {
		p.dead[ofClient] = true
		return f
	}
	if p.first(q.Cookie) > 0 {
		p.dead[ofServer] = true
		return finding{bad: true}
	}
	p.list = append(p.list, plainRequest{Request: q})
	f.r.N = len(p.list)
	return f
}

// first tells the number of the first outstanding request with a cookie, 0 of none.
func (p *plain) first(cookie uint64) int {
	return 1 + slices.IndexFunc(p.list, func(q plainRequest) bool { return !q.done && q.Cookie == cookie })
}

func (p *plain) open() []int {
	var out []int
	for i, q := range p.list {
		if !q.done {
			out = append(out, i+1)
		}
	}
	return out
}

func (p *plain) serverSays(b []byte) finding {
	if !p.greeted {
		return p.saysGreeting(b)
	}
	awaited := p.answered < len(p.options)
	if p.started {
		awaited = len(p.open()) > 0
	}
	switch {
	case len(b) == 0:
		return finding{none: true}
	case !awaited:
		return finding{bad: true}
	case p.started:
		return p.saysAnswer(b)
	case p.options[p.answered] == 1:
		return p.saysExport(b)
	}
	return p.saysReply(b)
}

func (p *plain) saysGreeting(b []byte) finding {
	if len(b) < 18 {
		return finding{none: true}
	}
	f := at16(b, 16)
	if string(b[:16]) != "NBDMAGICIHAVEOPT" || f != 1 && f != 3 {
		return finding{bad: true}
	}
	p.greeted = true
	return finding{r: api.Record{Kind: api.RecGreeting, Flags: uint32(f)}, head: 18}
}

func (p *plain) saysExport(b []byte) finding {
	head := 134
	if p.flags[0] >= 2 {
		head = 10
	}
	if len(b) < head {
		return finding{none: true}
	}
	for _, v := range b[10:head] {
		if v != 0 {
			return finding{bad: true}
		}
	}
	p.answered++
	p.started = true
	return finding{r: api.Record{Kind: api.RecExport, Code: 1, Size: at64(b, 0), Flags: uint32(at16(b, 8)), Last: true}, head: uint64(head)}
}

func (p *plain) saysReply(b []byte) finding {
	if len(b) < 20 {
		return finding{none: true}
	}
	option := p.options[p.answered]
	kind, size := at32(b, 12), uint64(at32(b, 16))
	if at64(b, 0) != 0x0003e889045565a9 || at32(b, 8) != option {
		return finding{bad: true}
	}
	ends := false
	switch what := fmt.Sprint(kind, " of ", option); {
	case what == "2 of 3" || what == "3 of 6" || what == "3 of 7" || what == "4 of 9" || what == "4 of 10":
	case kind == 1 || kind >= 1<<31:
		ends = true
	default:
		return finding{bad: true}
	}
	if ends {
		p.answered++
	}
	if kind == 1 {
		p.started = option == 7
		p.aborted = option == 2
		p.chunks = p.chunks || option == 8 || option == 11
		p.extended = p.extended || option == 11
	}
	return finding{r: api.Record{Kind: api.RecReply, Code: option, Flags: kind, Size: size, Last: ends}, head: 20, data: size}
}

func (p *plain) saysAnswer(b []byte) finding {
	if len(b) < 4 {
		return finding{none: true}
	}
	switch magic := at32(b, 0); {
	case magic == 0x67446698 && !p.extended:
		return p.saysSimple(b)
	case magic == 0x668e33ef && p.chunks && !p.extended:
		return p.saysChunk(b, 20)
	case magic == 0x6e8a278c && p.extended:
		return p.saysChunk(b, 32)
	}
	return finding{bad: true}
}

func (p *plain) saysSimple(b []byte) finding {
	if len(b) < 16 {
		return finding{none: true}
	}
	code, n := at32(b, 4), p.first(at64(b, 8))
	if n == 0 {
		return finding{bad: true}
	}
	q := &p.list[n-1]
	if p.chunks && (q.Type == 0 || q.Type == 7) {
		return finding{bad: true}
	}
	q.done = true
	var size uint64
	if q.Type == 0 && code == 0 {
		size = q.Length
	}
	return finding{r: api.Record{Kind: api.RecAnswer, N: n, Code: code, Size: size, Last: true}, head: 16, data: size}
}

func (p *plain) saysChunk(b []byte, head int) finding {
	if len(b) < head {
		return finding{none: true}
	}
	flags, kind, n := at16(b, 4), at16(b, 6), p.first(at64(b, 8))
	if n == 0 || flags > 1 {
		return finding{bad: true}
	}
	q := &p.list[n-1]
	var size uint64
	if p.extended {
		size = at64(b, 24)
		if at64(b, 16) != q.Offset {
			return finding{bad: true}
		}
	} else {
		size = uint64(at32(b, 16))
	}
	bad := true
	switch kind {
	case 0:
		bad = size > 0 || flags == 0
	case 1:
		bad = q.Type != 0 || size < 9
	case 2:
		bad = q.Type != 0 || size != 12
	case 5:
		bad = p.extended || q.Type != 7 || size < 12
	case 6:
		bad = !p.extended || q.Type != 7 || size < 24
	case 32769:
		bad = size < 6
	case 32770:
		bad = size < 14
	}
	if bad {
		return finding{bad: true}
	}
	q.done = flags == 1
	return finding{r: api.Record{Kind: api.RecChunk, N: n, Code: uint32(kind), Size: size, Last: flags == 1}, head: uint64(head), data: size}
}

// count reckons what P22.8 names out of all that was told.
func (p *plain) count() api.Tally {
	var c api.Tally
	failed := map[int]bool{}
	for _, r := range p.told {
		switch r.Kind {
		case api.RecOption:
			c.Options++
		case api.RecRequest:
			c.Written += r.Size
			if r.N > 0 {
				c.Requests++
			}
		case api.RecAnswer:
			failed[r.N] = failed[r.N] || r.Code != 0
			if p.list[r.N-1].Type == 0 {
				c.Read += r.Size
			}
		case api.RecChunk:
			failed[r.N] = failed[r.N] || r.Code >= 32769
			if r.Code == 1 {
				c.Read += r.Size - 8
			}
		}
		if (r.Kind == api.RecAnswer || r.Kind == api.RecChunk) && r.Last {
			c.Answered++
			if failed[r.N] {
				c.Failed++
			}
		}
	}
	return c
}
