package mirror

import "spindle/api"

// A copying is what is done for a stale member while no operation waits: some bytes that it misses are copied to it, or it is flushed.
type copying struct {
	from   int // the whole member that is read; of a flush the stale one
	to     int
	off    uint64
	length uint64
}

// needs tells whether the copying ends when that member is dropped.
func (c *copying) needs(k int) bool { return k == c.from || k == c.to }

// beginCopying begins one, if there is somebody to copy from and somebody to copy to (P24.7, as all below).
func (m *Mirror) beginCopying() bool {
	from, to := m.least(api.MemberWhole), m.least(api.MemberStale)
	if from == nobody || to == nobody {
		return false
	}
	missed, ok := m.members[to].firstMissed()
	if !ok {
		m.copying = &copying{from: to, to: to}
		m.ask(to, api.Request{Type: api.CmdFlush}, m.flushed)
		return true
	}
	c := &copying{from: from, to: to, off: uint64(missed.Lo), length: min(uint64(missed.Hi-missed.Lo), uint64(m.plan.Chunk))}
	m.copying = c
	m.ask(from, api.Request{Type: api.CmdRead, Offset: c.off, Length: c.length}, m.fetched)
	return true
}

// fetched writes to the stale member what was read.
func (m *Mirror) fetched(_ int, e api.Event) {
	c := m.copying
	m.ask(c.to, api.Request{Type: api.CmdWrite, Offset: c.off, Length: c.length, Data: e.Data}, m.copied)
}

func (m *Mirror) copied(k int, _ api.Event) {
	m.members[k].mark(m.copying.off, m.copying.length, has)
	m.endCopying()
}

// flushed lets the member be whole, whoever else is.
func (m *Mirror) flushed(k int, _ api.Event) {
	m.members[k].state = api.MemberWhole
	m.endCopying()
}

// endCopying ends it; what is still answered for it leads to nothing.
func (m *Mirror) endCopying() {
	m.forget(m.copying.from)
	m.forget(m.copying.to)
	m.copying = nil
}
