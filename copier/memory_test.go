package copier_test

import (
	"bytes"
	"fmt"
	"testing"

	"spindle/api"
	"spindle/copier"
)

// R4: what Hear is handed is not changed, with the room behind it, and not kept: all bytes come through one piece of memory that is written over behind each Hear.
func TestHandedBytes(t *testing.T) {
	for _, size := range []int{1, 9, 64, 4000, 9000} {
		list := recorded(t, "handed", dirtyPlan(), both, true)
		c, _ := copier.New(dirtyPlan())
		room := make([]byte, 0, 20000)
		for n, m := range list {
			for b := m.b; len(b) > 0; b = b[min(size, len(b)):] {
				room = append(room[:0], b[:min(size, len(b))]...)
				before := bytes.Clone(whole(room))
				want(t, "Hear", c.Hear(m.side, room), api.OK)
				if !bytes.Equal(whole(room), before) {
					t.Error("the bytes, or the room behind them, have changed")
				}
				spoil(room, 0xee)
			}
			want(t, fmt.Sprint("moment ", n), c.State(), m.state)
			wantBytes(t, fmt.Sprint("moment ", n), c.Say(0), m.mails[0])
			wantBytes(t, fmt.Sprint("moment ", n), c.Say(1), m.mails[1])
		}
	}
}

// R4: what is said is new memory: written over and appended to, it comes into nothing that is said earlier or later, of either side.
func TestSaidBytes(t *testing.T) {
	list := recorded(t, "said", aPlan(), telling, true)
	c, _ := copier.New(aPlan())
	var kept [][]byte
	for n, m := range list {
		c.Hear(m.side, m.b)
		for side := range 2 {
			said := c.Say(side)
			wantBytes(t, fmt.Sprint("moment ", n), said, m.mails[side])
			_ = append(said, many(5000, 1)...)
			if n%2 == 0 {
				spoil(said, 0xdd)
			} else {
				kept = append(kept, said)
			}
		}
	}
	for n, m := range list {
		if n%2 == 1 {
			wantBytes(t, "said earlier", kept[0], m.mails[0])
			wantBytes(t, "said earlier", kept[1], m.mails[1])
			kept = kept[2:]
		}
	}
}

// R4: what was read and waits to be written, or to be written again, is the copier's own.
func TestReadBytes(t *testing.T) {
	c, _ := copier.New(aPlan())
	c.Hear(1, greetingBytes(3))
	c.Hear(1, startBytes(4096))
	c.Hear(0, greetingBytes(3))
	c.Hear(0, replyBytes(8, api.RepUnsup))
	c.Hear(0, startBytes(4096))
	c.Say(1)
	answer := plainly.read(1, 0, many(4096, 0))
	c.Hear(0, answer)
	spoil(answer, 0xee)
	said := c.Say(1)
	wantBytes(t, "a write", said, writeBytes(1, 0, many(4096, 0)))
	spoil(said, 0xdd)
	c.Hear(1, simpleBytes(5, 1))
	said = c.Say(1)
	wantBytes(t, "asked again", said, writeBytes(2, 0, many(4096, 0)))
	spoil(said, 0xdd)
	c.Lost(1)
	c.Hear(1, greetingBytes(3))
	c.Hear(1, startBytes(4096))
	c.Say(1)
	want(t, "asked three times, and lost once", c.State(), api.CopyState{Phase: api.CopyWork, Size: 4096, Again: 1})
	c.Hear(1, simpleBytes(0, 1))
	want(t, "written", c.State().Copied, 4096)
}

// R5, R9: two copiers side by side, in turns, know nothing of one another.
func TestSideBySide(t *testing.T) {
	lists := [][]moment{recorded(t, "one", aPlan(), telling, false), recorded(t, "two", dirtyPlan(), both, false), recorded(t, "three", aPlan(), plainly, true)}
	plans := []api.CopyPlan{aPlan(), dirtyPlan(), aPlan()}
	desks := make([]*desk, len(lists))
	for i := range desks {
		desks[i] = newDesk(t, fmt.Sprint("copier ", i), plans[i])
	}
	d := dice(3)
	next := make([]int, len(lists))
	for left := len(lists[0]) + len(lists[1]) + len(lists[2]); left > 0; {
		i := d.below(3)
		if next[i] == len(lists[i]) {
			continue
		}
		m := lists[i][next[i]]
		next[i]++
		left--
		desks[i].hear(m.side, m.b)
		desks[i].wantState(m.state)
		desks[i].wantSay(0, m.mails[0])
		desks[i].wantSay(1, m.mails[1])
	}
}

// R5: the same calls are answered alike, however often they are made.
func TestAgain(t *testing.T) {
	list := recorded(t, "again", dirtyPlan(), both, true)
	for range 20 {
		replay(t, "again", dirtyPlan(), list, func(int, []byte) []int { return nil })
	}
}
