package frame_test

import (
	"bytes"
	"fmt"
	"testing"

	"spindle/api"
	"spindle/frame"
)

// laid are the bytes of a message that a call has cut; of an option that is too long those of its head.
func laid(c call, m any) []byte {
	switch v := m.(type) {
	case api.Greeting:
		return lay("NBDMAGICIHAVEOPT", v.Flags)
	case uint32:
		return lay(v)
	case api.Option:
		return optionBytes(v.Code, v.Len, v.Data)
	case api.OptionReply:
		return lay(uint64(0x0003e889045565a9), v.Option, v.Kind, uint32(len(v.Data)), v.Data)
	case api.ExportReply:
		if c.on {
			return lay(v.Size, v.Flags, make([]byte, 124))
		}
		return lay(v.Size, v.Flags)
	case api.Request:
		return requestBytes(v, c.on)
	case api.Reply:
		if !v.Structured {
			return lay(uint32(magicSimple), v.Simple.Code, v.Simple.Cookie)
		}
		return chunkBytes(v.Chunk, c.on)
	case []byte:
		return v
	}
	return nil
}

// A ledger has what was taken by an inbox and has not been cut or passed over yet; over: how many bytes are to be passed over.
type ledger struct {
	left []byte
	over int
}

func (l *ledger) feed(x *frame.Inbox, b []byte) int {
	n := x.Feed(b)
	l.left = append(l.left, b[:n]...)
	l.pass()
	return n
}

func (l *ledger) pass() {
	n := min(l.over, len(l.left))
	l.over -= n
	l.left = l.left[n:]
}

// cut makes a call, and looks that what it cuts is what came next.
func (l *ledger) cut(t *testing.T, what string, x *frame.Inbox, c call) {
	t.Helper()
	m, cut := c.of(x)
	if cut != api.CutDone {
		return
	}
	b := laid(c, m)
	if !bytes.HasPrefix(l.left, b) {
		t.Fatalf("%s: %+v cut %s, next was %s", what, c, short(b), short(l.left))
	}
	l.left = l.left[len(b):]
	if o, ok := m.(api.Option); ok && o.Long {
		l.over = int(o.Len)
		l.pass()
	}
}

// P9.8: the bytes that were taken are, in their order, those that were cut, those that were passed over, and those that are held.
func TestNothingIsLost(t *testing.T) {
	for seed := range 1500 {
		d := dice(seed + 4242)
		room := pick(&d, 1, 5, 16, 21, 40, 134, 333, 1000, 4000)
		x, l := fresh(t, room), &ledger{}
		row := throwRow(&d, 25)
		for step := range 150 {
			what := fmt.Sprintf("seed %d, step %d", seed, step)
			if d.below(3) == 0 {
				row = row[l.feed(x, row[:min(len(row), pick(&d, 0, 1, d.below(40), d.below(700)))]):]
			} else {
				l.cut(t, what, x, throwCall(&d, l.left))
			}
			want(t, what+": Held", x.Held(), len(l.left))
			want(t, what+": Room", x.Room(), room-len(l.left))
			if t.Failed() {
				return
			}
		}
		if l.over > 0 {
			b := bytes.Repeat([]byte{0xee}, min(l.over, 1<<20))
			want(t, "what is to be passed over", l.feed(x, b), len(b))
		}
		if l.over == 0 {
			wantHolds(t, fmt.Sprintf("seed %d", seed), x, room, l.left)
		}
	}
}
