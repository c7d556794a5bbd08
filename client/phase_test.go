package client_test

import (
	"slices"
	"testing"

	"spindle/api"
	"spindle/client"
)

// P16.1: a new client awaits the greeting, and has heard and asked nothing.
func TestNew(t *testing.T) {
	c := fresh(t)
	want(t, "Phase", c.Phase(), api.ClientGreeting)
	wantOutstanding(t, "new", c)
	wantEvents(t, "nothing", c.In(nil))
	wantRefusals(t, "new", c, api.ErrAsk)
	want(t, "another one", fresh(t) != c, true)
	wantEvents(t, "the greeting", c.In(greetingBytes(1)), api.Event{Kind: api.EvGreeting, Flags: 1})
}

// A place is where a client can stand, and what may be asked there.
type place struct {
	name  string
	phase api.ClientPhase
	make  func(t *testing.T) *client.Client
	may   []string // the names of asks
}

// places are all of them.
func places() []place {
	options := []string{"EXPORT_NAME", "LIST", "INFO", "GO", "LIST_META", "SET_META"}
	after := func(make func(t *testing.T) *client.Client, then func(t *testing.T, c *client.Client)) func(t *testing.T) *client.Client {
		return func(t *testing.T) *client.Client {
			c := make(t)
			then(t, c)
			return c
		}
	}
	with := func(flags uint32) func(t *testing.T) *client.Client {
		return func(t *testing.T) *client.Client { return haggling(t, flags) }
	}
	work := func(t *testing.T) *client.Client { return working(t, inChunks) }
	says := func(q api.Request) func(t *testing.T, c *client.Client) {
		return func(t *testing.T, c *client.Client) { mustRequest(t, c, q) }
	}
	hears := func(b ...byte) func(t *testing.T, c *client.Client) {
		return func(t *testing.T, c *client.Client) { c.In(b) }
	}
	asks := func(code uint32) func(t *testing.T, c *client.Client) {
		return func(t *testing.T, c *client.Client) { mustAsk(t, c, code) }
	}
	begun := after(work, says(read(0, 8)))
	return []place{
		{"new", api.ClientGreeting, fresh, nil},
		{"half a greeting", api.ClientGreeting, after(fresh, hears(greetingBytes(3)[:17]...)), nil},
		{"greeted", api.ClientGreeting, func(t *testing.T) *client.Client { return greeted(t, 3) }, []string{"Flags"}},
		{"haggling", api.ClientOptions, with(3), options},
		{"haggling with zeros", api.ClientOptions, with(1), options},
		{"an option outstanding", api.ClientOptions, after(with(3), asks(3)), nil},
		{"an option partly answered", api.ClientOptions, after(after(with(3), asks(3)), hears(replyBytes(3, 2, serverBody("a")...)...)), nil},
		{"half an answer", api.ClientOptions, after(after(with(3), asks(3)), hears(ackBytes(3)[:19]...)), nil},
		{"acknowledged", api.ClientOptions, after(after(with(3), asks(3)), hears(ackBytes(3)...)), options},
		{"refused", api.ClientOptions, after(after(with(3), asks(7)), hears(replyBytes(7, api.RepUnknown)...)), options},
		{"EXPORT_NAME outstanding", api.ClientOptions, after(with(3), asks(1)), nil},
		{"old", api.ClientOptions, with(0), options[:1]},
		{"old without zeros", api.ClientOptions, with(2), options[:1]},
		{"old, EXPORT_NAME outstanding", api.ClientOptions, after(with(0), asks(1)), nil},
		{"work", api.ClientWork, work, []string{"READ", "DISC"}},
		{"work by EXPORT_NAME", api.ClientWork, after(after(with(3), asks(1)), hears(exportBytes(9, 1, false)...)), []string{"READ", "DISC"}},
		{"a request outstanding", api.ClientWork, begun, []string{"READ", "DISC"}},
		{"half a chunk", api.ClientWork, after(begun, hears(inChunks.chunk(1, 0, 1, 0)[:19]...)), []string{"READ", "DISC"}},
		{"closing", api.ClientClosing, after(work, says(disc())), nil},
		{"closing, a request outstanding", api.ClientClosing, after(begun, says(disc())), nil},
		{"aborted", api.ClientClosing, after(after(with(3), asks(2)), hears(ackBytes(2)...)), nil},
		{"broken in the greeting", api.ClientBroken, after(fresh, hears(make([]byte, 18)...)), nil},
		{"broken by options", api.ClientBroken, after(with(3), hears(0)), nil},
		{"broken in the work", api.ClientBroken, after(work, hears(make([]byte, 4)...)), nil},
	}
}

// P16.2 to P16.5, P16.7: every call in every phase: it says something just where it may; else ErrAsk, and nothing changes.
func TestEveryCallInEveryPhase(t *testing.T) {
	for _, p := range places() {
		want(t, p.name+": Phase", p.make(t).Phase(), p.phase)
		for _, a := range asks() {
			c := p.make(t)
			before := listed(c)
			b, _, e := a.of(c)
			if slices.Contains(p.may, a.name) {
				want(t, p.name+": "+a.name, e, api.OK)
				want(t, p.name+": "+a.name+" says something", len(b) > 0, true)
				continue
			}
			want(t, p.name+": "+a.name, e, api.ErrAsk)
			wantBytes(t, p.name+": "+a.name, b, nil)
			want(t, p.name+": "+a.name+": Phase", c.Phase(), p.phase)
			wantOutstanding(t, p.name+": "+a.name, c, before...)
			for _, other := range asks() {
				_, _, e := other.of(c)
				want(t, p.name+": "+a.name+", then "+other.name, e == api.OK, slices.Contains(p.may, other.name))
				if e == api.OK {
					break
				}
			}
		}
	}
}

// P16.6: of no byte nothing is heard, wherever a client stands.
func TestNoBytes(t *testing.T) {
	for _, p := range places() {
		c := p.make(t)
		before := listed(c)
		for _, b := range [][]byte{nil, {}, make([]byte, 0, 9)} {
			wantEvents(t, p.name, c.In(b))
			want(t, p.name+": Phase", c.Phase(), p.phase)
			wantOutstanding(t, p.name, c, before...)
		}
	}
}

// P16.6: bytes where nothing is awaited: one is enough.
func TestNothingIsAwaited(t *testing.T) {
	none := map[string]bool{"greeted": true, "haggling": true, "haggling with zeros": true, "acknowledged": true, "refused": true, "old": true, "old without zeros": true, "aborted": true}
	n := 0
	for _, p := range places() {
		if !none[p.name] {
			continue
		}
		n++
		for _, b := range [][]byte{{0}, {1}, greetingBytes(3), ackBytes(3), replyBytes(7, 3, exportBody(1, 1)...), simpleBytes(0, 1), many(3000000)} {
			wantBreak(t, p.name, p.make(t), b)
		}
	}
	want(t, "places", n, len(none))
}

// P16.6: where something is awaited a byte that may be its first breaks nothing, in the work without a request neither.
func TestOneByte(t *testing.T) {
	for name, b := range map[string]byte{"new": 'N', "an option outstanding": 0, "EXPORT_NAME outstanding": 0, "work": 0x66, "closing": 0x67, "a request outstanding": 1} {
		for _, p := range places() {
			if p.name != name {
				continue
			}
			c := p.make(t)
			wantEvents(t, p.name, c.In([]byte{b}))
			want(t, p.name, c.Phase(), p.phase)
		}
	}
}

// P16.6: a broken client hears nothing, however it was broken; what stands behind is not looked at.
func TestBroken(t *testing.T) {
	c := fresh(t)
	wantBreak(t, "another magic", c, lay(make([]byte, 18), greetingBytes(3), greetingBytes(3)))
	c = greeted(t, 3)
	wantBreak(t, "a greeting again", c, lay(greetingBytes(3), greetingBytes(3)))
	c = working(t, inChunks)
	first, second := read(0, 4), write(7, []byte("abc"))
	mustRequest(t, c, first)
	mustRequest(t, c, second)
	mustRequest(t, c, status(3, 9))
	b := lay(simpleBytes(5, 2), simpleBytes(0, 9), simpleBytes(0, 2), inChunks.chunk(1, 0, 3, 0))
	wantEvents(t, "a cookie of none", c.In(b), done(2, 5), api.Event{Kind: api.EvBroken})
	wantBroken(t, "a cookie of none", c, outstanding(1, first), outstanding(3, status(3, 9)))
}
