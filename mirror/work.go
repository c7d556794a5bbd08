package mirror

import (
	"slices"

	"spindle/api"
)

// An operation is one that waits, or is in work.
type operation struct {
	id   int
	asks api.Request // what members are asked for it
	left []int       // those that were asked and are still to answer
	well bool        // one that was whole when it was asked has answered well
}

// Read asks for n bytes (P24.3).
func (m *Mirror) Read(off uint64, n uint32) (int, api.Errno) {
	return m.add(api.Request{Type: api.CmdRead, Offset: off, Length: uint64(n)})
}

// Write lays bytes down (P24.3).
func (m *Mirror) Write(off uint64, b []byte) (int, api.Errno) {
	return m.add(api.Request{Type: api.CmdWrite, Offset: off, Length: uint64(len(b)), Data: b})
}

// Zero makes n bytes 0 (P24.3).
func (m *Mirror) Zero(off uint64, n uint32) (int, api.Errno) {
	return m.add(api.Request{Type: api.CmdZeroes, Offset: off, Length: uint64(n)})
}

// Flush makes all safe (P24.3).
func (m *Mirror) Flush() (int, api.Errno) {
	return m.add(api.Request{Type: api.CmdFlush})
}

// add lets an operation wait, unless it is refused.
func (m *Mirror) add(q api.Request) (int, api.Errno) {
	if e := m.refuses(q); e != api.OK {
		return 0, e
	}
	q.Data = slices.Clone(q.Data)
	m.last++
	w := &operation{id: m.last, asks: q}
	m.waiting = append(m.waiting, w)
	m.goOn()
	return w.id, api.OK
}

func (m *Mirror) refuses(q api.Request) api.Errno {
	switch {
	case !m.usable():
		return api.ErrNil
	case q.Length == 0 && q.Type != api.CmdFlush:
		return api.ErrArg
	case q.Length > uint64(m.plan.Chunk) && q.Type != api.CmdZeroes:
		return api.ErrLong
	case q.Offset > m.plan.Size || q.Length > m.plan.Size-q.Offset: // a sum could wrap
		return api.ErrBounds
	case len(m.waiting) == api.MaxMirror:
		return api.ErrBusy
	}
	return api.OK
}

// goOn begins what can begin: the first operation that waits, or else a copying (P24.3, P24.7).
func (m *Mirror) goOn() {
	for m.work == nil && m.copying == nil {
		switch {
		case len(m.waiting) > 0:
			m.work = m.waiting[0]
			m.begin()
		case !m.beginCopying():
			return
		}
	}
}

// begin begins the operation in work (P24.4).
func (m *Mirror) begin() {
	switch {
	case m.work.asks.Type == api.CmdRead:
		m.askReader()
	case m.least(api.MemberWhole) == nobody:
		m.end(api.EIO, nil)
	default:
		m.askAll()
	}
}

// askReader asks a whole member to read, if there is one.
func (m *Mirror) askReader() {
	k := m.least(api.MemberWhole)
	if k == nobody {
		m.end(api.EIO, nil)
		return
	}
	m.askFor(k, m.read)
}

// askAll asks every open member; what all others miss grows. (A flush has no bytes that they could miss.)
func (m *Mirror) askAll() {
	q := m.work.asks
	for k, x := range m.members {
		if x.open() {
			m.askFor(k, m.changed)
		} else {
			x.mark(q.Offset, q.Length, misses)
		}
	}
	m.work.asks.Data = nil // the mails have it, and nobody else is asked
}

// askFor asks a member for the operation in work.
func (m *Mirror) askFor(k int, then lead) {
	m.work.left = append(m.work.left, k)
	m.ask(k, m.work.asks, then)
}

// read ends a read: its bytes have come.
func (m *Mirror) read(_ int, e api.Event) { m.end(0, e.Data) }

// changed takes a member's good answer down. While an operation is in work nothing is copied and nobody trusted, so that the member is whole just if it was when it was asked.
func (m *Mirror) changed(k int, _ api.Event) {
	w, x := m.work, m.members[k]
	x.mark(w.asks.Offset, w.asks.Length, has)
	w.well = w.well || x.state == api.MemberWhole
	m.settle(k)
}

// without lets the operation in work go on without a member that was dropped (P24.6).
func (m *Mirror) without(k int) {
	w := m.work
	switch {
	case !slices.Contains(w.left, k):
	case w.asks.Type == api.CmdRead:
		w.left = nil
		m.askReader()
	default:
		m.members[k].mark(w.asks.Offset, w.asks.Length, misses)
		m.settle(k)
	}
}

// settle strikes a member off those that are still to answer; with the last one the operation ends.
func (m *Mirror) settle(k int) {
	w := m.work
	w.left = slices.DeleteFunc(w.left, func(other int) bool { return other == k })
	switch {
	case len(w.left) > 0:
	case w.well:
		m.end(0, nil)
	default:
		m.end(api.EIO, nil)
	}
}

// end ends the operation in work.
func (m *Mirror) end(code uint32, data []byte) {
	m.ended = append(m.ended, api.MirrorDone{ID: m.work.id, Code: code, Data: data})
	m.waiting = slices.Delete(m.waiting, 0, 1)
	m.work = nil
}
