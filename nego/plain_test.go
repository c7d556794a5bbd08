package nego_test

import (
	"encoding/binary"
	"slices"
	"strings"
	"unicode/utf8"

	"spindle/api"
)

// plain is a talk as the chapter's words have it, one by one, and nothing cleverer.
type plain struct {
	exports              []api.Export
	payload              uint32
	flags                uint32
	taken, over, begun   bool
	structured, extended bool
	index                int
	chosenOf             int // -1: none is chosen
	chosen               []uint32
}

func newPlain(exports []api.Export, payload uint32) *plain {
	return &plain{exports: slices.Clone(exports), payload: payload, chosenOf: -1}
}

func (p *plain) setFlags(f uint32) api.Errno {
	if p.taken {
		return api.ErrOver
	}
	p.taken = true
	if f > 3 {
		p.over = true
		return api.ErrFlags
	}
	p.flags = f
	return api.OK
}

func (p *plain) session() api.Session {
	s := api.Session{Structured: p.structured, Extended: p.extended}
	if p.begun {
		s.Index = p.index
		if p.chosenOf == p.index {
			s.Contexts = p.chosen
		}
	}
	return s
}

func (p *plain) option(o api.Option) ([]api.OptionReply, api.NegoStep, api.Errno) {
	if !p.taken || p.over || p.begun {
		return nil, api.NegoStep{}, api.ErrOver
	}
	var l []api.OptionReply
	var s api.NegoStep
	if o.Code == 1 {
		s = p.exportName(o)
	} else if p.flags == 0 || p.flags == 2 {
		s = end
	} else {
		l, s = p.other(o)
	}
	p.begun = s.Kind == api.NegoStart
	p.over = s.Kind == api.NegoEnd
	for i := range l {
		l[i].Option = o.Code
	}
	return l, s, api.OK
}

func (p *plain) exportName(o api.Option) api.NegoStep {
	at := p.numberOf(string(o.Data))
	if o.Long || at < 0 {
		return end
	}
	p.index = at
	return oldStart(p.exports[at], p.structured, p.flags < 2)
}

func (p *plain) numberOf(name string) int {
	for i, e := range p.exports {
		if e.Name == name || name == "" {
			return i
		}
	}
	return -1
}

func no(kind uint32) ([]api.OptionReply, api.NegoStep) {
	return []api.OptionReply{{Kind: kind}}, on
}

func (p *plain) other(o api.Option) ([]api.OptionReply, api.NegoStep) {
	if o.Long {
		if o.Code == 10 {
			p.chosenOf = -1
		}
		return no(api.RepTooBig)
	}
	data := len(o.Data) > 0
	switch {
	case o.Code == 2:
		return []api.OptionReply{ack}, end
	case data && (o.Code == 3 || o.Code == 5 || o.Code == 8 || o.Code == 11):
		return no(api.RepInvalid)
	case o.Code == 3:
		var l []api.OptionReply
		for _, e := range p.exports {
			l = append(l, server(e.Name))
		}
		return append(l, ack), on
	case o.Code == 6, o.Code == 7:
		return p.inform(o)
	case o.Code == 8 && p.extended:
		return no(api.RepInvalid)
	case o.Code == 8, o.Code == 11:
		p.structured = true
		p.extended = p.extended || o.Code == 11
		return []api.OptionReply{ack}, on
	case o.Code == 9, o.Code == 10:
		return p.contexts(o)
	}
	return no(api.RepUnsup)
}

func (p *plain) inform(o api.Option) ([]api.OptionReply, api.NegoStep) {
	name, rest, ok := plainText(o.Data)
	if !ok || len(rest) < 2 {
		return no(api.RepInvalid)
	}
	n := int(binary.BigEndian.Uint16(rest))
	if n > 64 {
		return no(api.RepTooBig)
	}
	if len(rest) != 2+2*n {
		return no(api.RepInvalid)
	}
	at := p.numberOf(name)
	if at < 0 {
		return no(api.RepUnknown)
	}
	e := p.exports[at]
	l := []api.OptionReply{infoOf(0, e, flagsOf(e, p.structured), p.payload)}
	var seen [4]bool
	seen[0] = true
	for i := range n {
		kind := binary.BigEndian.Uint16(rest[2+2*i:])
		if kind < 4 && !seen[kind] {
			seen[kind] = true
			l = append(l, infoOf(kind, e, 0, p.payload))
		}
	}
	if e.Min != 1 && !seen[3] {
		return no(api.RepBlockSize)
	}
	if o.Code == 6 {
		return append(l, ack), on
	}
	p.index = at
	return append(l, ack), start
}

// plainText reads a text with its length ahead, and tells what stands behind.
func plainText(b []byte) (string, []byte, bool) {
	if len(b) < 4 {
		return "", nil, false
	}
	n := uint64(binary.BigEndian.Uint32(b))
	if n > 4096 || n > uint64(len(b)-4) {
		return "", nil, false
	}
	s := string(b[4 : 4+n])
	return s, b[4+n:], utf8.ValidString(s) && !strings.Contains(s, "\x00")
}

func (p *plain) contexts(o api.Option) ([]api.OptionReply, api.NegoStep) {
	if o.Code == 10 {
		p.chosenOf, p.chosen = -1, nil
	}
	if !p.structured {
		return no(api.RepInvalid)
	}
	name, rest, ok := plainText(o.Data)
	if !ok || len(rest) < 4 {
		return no(api.RepInvalid)
	}
	n := binary.BigEndian.Uint32(rest)
	if n > 16 {
		return no(api.RepTooBig)
	}
	rest = rest[4:]
	var queries []string
	for range n {
		var q string
		if q, rest, ok = plainText(rest); !ok {
			return no(api.RepInvalid)
		}
		queries = append(queries, q)
	}
	at := p.numberOf(name)
	if len(rest) > 0 {
		return no(api.RepInvalid)
	}
	if at < 0 {
		return no(api.RepUnknown)
	}
	var ids []uint32
	for id := uint32(1); id <= 3; id++ {
		if p.isMeant(id, queries, o.Code == 9) && (id != 3 || p.exports[at].Tracked) {
			ids = append(ids, id)
		}
	}
	if o.Code == 10 {
		p.chosenOf, p.chosen = at, ids
	}
	return metas(o.Code == 9, ids...), on
}

func (p *plain) isMeant(id uint32, queries []string, listing bool) bool {
	for _, q := range queries {
		if q == contextNames()[id] || listing && (q == "base:" && id == 1 || q == "spindle:" && id > 1) {
			return true
		}
	}
	return listing && len(queries) == 0
}
