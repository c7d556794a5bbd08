package conn_test

import (
	"slices"
	"testing"

	"spindle/api"
	"spindle/conn"
)

// A state is a connection as calls can leave one: what Look tells of it, and what waits in its outbox.
type state struct {
	name string
	make func(t *testing.T) *conn.Conn
	look api.ConnLook
	out  []byte
}

// after gives a connection of which a new one becomes by something that is done to it.
func after(flight int, do func(t *testing.T, c *conn.Conn)) func(t *testing.T) *conn.Conn {
	return func(t *testing.T) *conn.Conn {
		t.Helper()
		c := fresh(t, one(), small(flight))
		do(t, c)
		return c
	}
}

// afterWork does the same to one in the transmission, all of whose words have left.
func afterWork(flight int, do func(t *testing.T, c *conn.Conn)) func(t *testing.T) *conn.Conn {
	return func(t *testing.T) *conn.Conn {
		t.Helper()
		c := begun(t, flight)
		do(t, c)
		return c
	}
}

// busy lays four reads into a connection, of which 1 and 3 are pending, 2 is ready, and the answer to 4 is in the outbox.
func busy(t *testing.T, c *conn.Conn) {
	t.Helper()
	for i := range 4 {
		request(t, c, read(uint64(i+1), 4096*uint64(i%2), 512))
	}
	want(t, "Send", c.Send(4), api.OK)
}

// states are some in each phase.
func states() []state {
	refused := simpleBytes(22, 4)
	bye := requestBytes(disc(), false)
	return append(early(), []state{
		{"work", afterWork(4, func(*testing.T, *conn.Conn) {}), api.ConnLook{Phase: api.PhaseWork, Next: 1}, nil},
		{"work, a part of a request", afterWork(4, func(t *testing.T, c *conn.Conn) { give(t, c, requestBytes(read(1, 0, 1), false)[:27]) }), api.ConnLook{Phase: api.PhaseWork, Inbox: 27, Next: 1}, nil},
		{"work, with tasks", afterWork(4, busy), api.ConnLook{Phase: api.PhaseWork, Pending: []int{1, 3}, Ready: []int{2}, Outbox: 16, Next: 5}, refused},
		{"work, a full table", afterWork(4, func(t *testing.T, c *conn.Conn) {
			busy(t, c)
			request(t, c, read(1, 0, 1))
			give(t, c, requestBytes(read(1, 0, 1), false))
		}), api.ConnLook{Phase: api.PhaseWork, Inbox: 28, Pending: []int{1, 3, 5}, Ready: []int{2}, Outbox: 16, Next: 6}, refused},
		{"drain", afterWork(4, func(t *testing.T, c *conn.Conn) {
			busy(t, c)
			give(t, c, lay(bye, bye))
			c.Take()
		}), api.ConnLook{Phase: api.PhaseDrain, Pending: []int{1, 3}, Ready: []int{2}, Outbox: 16, Next: 5}, refused},
		{"drain, one that is ready", afterWork(4, func(t *testing.T, c *conn.Conn) {
			request(t, c, read(1, 4096, 1))
			give(t, c, bye)
			c.Take()
		}), api.ConnLook{Phase: api.PhaseDrain, Ready: []int{1}, Next: 2}, nil},
		{"over by DISC", afterWork(4, func(t *testing.T, c *conn.Conn) { give(t, c, lay(bye, bye)); c.Take() }), api.ConnLook{Phase: api.PhaseOver, Next: 1}, nil},
		{"over by DISC and a Send", afterWork(4, func(t *testing.T, c *conn.Conn) {
			request(t, c, read(4, 4096, 1))
			give(t, c, bye)
			c.Take()
			c.Send(1)
		}), api.ConnLook{Phase: api.PhaseOver, Outbox: 16, Next: 2}, refused},
		{"over by another magic", afterWork(4, func(t *testing.T, c *conn.Conn) { busy(t, c); give(t, c, make([]byte, 90)); c.Take() }), api.ConnLook{Phase: api.PhaseOver, Outbox: 16, Next: 5}, refused},
		{"over by Shut", afterWork(4, func(t *testing.T, c *conn.Conn) { busy(t, c); give(t, c, make([]byte, 9)); c.Shut() }), api.ConnLook{Phase: api.PhaseOver, Next: 5}, nil},
	}...)
}

// early are states ahead of the transmission.
func early() []state {
	list := lay(replyBytes(3, api.RepServer, lay(uint32(1), "a")...), replyBytes(3, api.RepAck))
	return []state{
		{"new", after(2, func(*testing.T, *conn.Conn) {}), api.ConnLook{Phase: api.PhaseFlags, Outbox: 18, Next: 1}, greeting()},
		{"flags, a part of them", after(2, func(t *testing.T, c *conn.Conn) { c.Out(); give(t, c, make([]byte, 3)) }), api.ConnLook{Phase: api.PhaseFlags, Inbox: 3, Next: 1}, nil},
		{"options", after(2, func(t *testing.T, c *conn.Conn) { give(t, c, flagBytes(3)); c.Take() }), api.ConnLook{Phase: api.PhaseOptions, Outbox: 18, Next: 1}, greeting()},
		{"options, a part of one", after(2, func(t *testing.T, c *conn.Conn) { give(t, c, lay(flagBytes(3), "IHAVEOP")); c.Take() }), api.ConnLook{Phase: api.PhaseOptions, Inbox: 7, Outbox: 18, Next: 1}, greeting()},
		{"options, an answer waits", after(2, func(t *testing.T, c *conn.Conn) {
			give(t, c, lay(flagBytes(3), option(api.OptExtended), option(api.OptList), "I"))
			for range 2 {
				c.Take()
			}
			c.Out()
			c.Take()
		}), api.ConnLook{Phase: api.PhaseOptions, Session: api.Session{Structured: true, Extended: true}, Inbox: 1, Outbox: len(list), Next: 1}, list},
		{"options, bytes to pass over", after(2, func(t *testing.T, c *conn.Conn) {
			give(t, c, lay(flagBytes(3), "IHAVEOPT", uint32(3), uint32(80), many(10)))
			c.Take()
			c.Out()
			c.Take()
		}), api.ConnLook{Phase: api.PhaseOptions, Outbox: 20, Next: 1}, replyBytes(3, api.RepTooBig)},
		{"over by flags", after(2, func(t *testing.T, c *conn.Conn) { give(t, c, flagBytes(8)); c.Take() }), api.ConnLook{Phase: api.PhaseOver, Outbox: 18, Next: 1}, greeting()},
		{"over by ABORT", after(2, func(t *testing.T, c *conn.Conn) {
			give(t, c, lay(flagBytes(3), option(api.OptStructured), option(api.OptAbort)))
			for range 2 {
				c.Take()
			}
			c.Out()
			c.Take()
		}), api.ConnLook{Phase: api.PhaseOver, Session: api.Session{Structured: true}, Outbox: 20, Next: 1}, replyBytes(2, api.RepAck)},
	}
}

// P14.8, P14.9, P14.10: what is told in each phase, and that telling changes nothing.
func TestTelling(t *testing.T) {
	for _, s := range states() {
		c := s.make(t)
		for range 3 {
			wantLook(t, s.name, c, s.look)
			wantNumbers(t, s.name+": Pending", c.Pending(), s.look.Pending...)
			wantNumbers(t, s.name+": Ready", c.Ready(), s.look.Ready...)
			wantSame(t, s.name+": Session", c.Session(), s.look.Session)
			want(t, s.name+": Over", c.Over(), s.look.Phase == api.PhaseOver)
			for id := -1; id < 8; id++ {
				_, e := c.Task(id)
				want(t, s.name+": Task", e == api.OK, slices.Contains(s.look.Pending, id))
			}
		}
	}
}

// P14.7: all that waits leaves once, in each phase, and nothing else changes by it.
func TestOut(t *testing.T) {
	for _, s := range states() {
		c := s.make(t)
		wantBytes(t, s.name, c.Out(), s.out)
		s.look.Outbox = 0
		for range 3 {
			wantLook(t, s.name, c, s.look)
			wantBytes(t, s.name+": again", c.Out(), nil)
		}
	}
}

// P14.2: Feed in each phase: of none, of a few bytes, of more than there is room for.
func TestFeed(t *testing.T) {
	const room = 512 + 32
	for _, s := range states() {
		closed := s.look.Phase == api.PhaseDrain || s.look.Phase == api.PhaseOver
		for _, n := range []int{0, 1, 5, 60, room - s.look.Inbox, room - s.look.Inbox + 1, room, 5000} {
			c, passed, wanted := s.make(t), 0, s.look
			if s.name == "options, bytes to pass over" {
				passed = min(n, 70)
			}
			taken := passed + min(n-passed, room-s.look.Inbox)
			if closed {
				taken = 0
			}
			want(t, s.name+": nil", c.Feed(nil), 0)
			want(t, s.name, c.Feed(many(n)), taken)
			wanted.Inbox += taken - min(passed, taken)
			wantLook(t, s.name, c, wanted)
			want(t, s.name+": none", c.Feed([]byte{}), 0)
			wantLook(t, s.name, c, wanted)
		}
	}
}

// P14.9: Shut in each phase: it is over, and nothing leaves any more.
func TestShut(t *testing.T) {
	for _, s := range states() {
		c := s.make(t)
		for range 2 {
			c.Shut()
			wantSame(t, s.name+": Session", c.Session(), s.look.Session)
			wantOver(t, s.name, c, s.look.Next, nil)
		}
	}
}

// P14.3: what stands in the inbox of a connection that has ended, and what its client still says, is never taken.
func TestNothingBehindTheEnd(t *testing.T) {
	for _, s := range states() {
		if s.look.Phase != api.PhaseDrain && s.look.Phase != api.PhaseOver {
			continue
		}
		c := s.make(t)
		for _, b := range [][]byte{flagBytes(3), goTo("a"), requestBytes(read(1, 0, 1), false), requestBytes(disc(), false), make([]byte, 99)} {
			want(t, s.name+": Feed", c.Feed(b), 0)
			wantVain(t, s.name, c)
			wantLook(t, s.name, c, s.look)
		}
	}
}
