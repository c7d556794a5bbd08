package copier_test

import (
	"fmt"
	"testing"

	"spindle/api"
)

// P23.3: of the greeting's flags those that the client knows are said; then side 0 asks for answers in chunks, side 1 chooses.
func TestGreetings(t *testing.T) {
	for _, flags := range []uint16{1, 3} {
		d := newDesk(t, fmt.Sprint("flags ", flags), aPlan())
		d.hear(0, greetingBytes(flags))
		d.wantSay(0, flagBytes(uint32(flags)), optionBytes(8))
		d.wantSay(1)
		d.hear(1, greetingBytes(flags))
		d.wantSay(1, flagBytes(uint32(flags)), goBytes("b"))
		d.wantSay(0)
		d.wantState(api.CopyState{Phase: api.CopyBegin})
	}
	for _, flags := range []uint16{0, 2, 4, 5, 7, 0xffff} {
		for side := range 2 {
			d := newDesk(t, fmt.Sprint("flags ", flags), aPlan())
			d.hear(side, greetingBytes(flags))
			d.wantSay(side)
			d.wantFailed(api.CopyState{}, side, 0, 0)
		}
	}
}

// P23.3: a source's options, in all forms, with and without Dirty, with each of the two sides beginning first; the work begins when both have begun, by what the source has told.
func TestForms(t *testing.T) {
	for _, f := range forms() {
		for _, plan := range []api.CopyPlan{aPlan(), dirtyPlan()} {
			for first := range 2 {
				d := newDesk(t, fmt.Sprintf("%s, dirty %v, side %d first", f.name, plan.Dirty, first), plan)
				d.begin(first, f, 8192)
				d.wantState(api.CopyState{Phase: api.CopyBegin})
				d.wantSay(0)
				d.wantSay(1)
				d.begin(1-first, f, 8192)
				if plan.Dirty && !f.tellsMarks() {
					d.wantFailed(api.CopyState{Size: 8192}, 0, 0, 0)
					continue
				}
				d.wantState(api.CopyState{Phase: api.CopyWork, Size: 8192})
				if f.tellsHoles() {
					d.wantSay(0, statusBytes(1, 0, 4096), statusBytes(2, 4096, 4096))
				} else {
					d.wantSay(0, readBytes(1, 0, 4096), readBytes(2, 4096, 4096))
				}
				d.wantSay(1)
			}
		}
	}
}

// P23.3: every kind of refusal is one: of structured answers, of contexts (whatever was told ahead), of an export.
func TestRefusalsOfOptions(t *testing.T) {
	for n := range uint32(12) {
		kind := 1<<31 + n
		d := newDesk(t, fmt.Sprintf("refused by %x", kind), dirtyPlan())
		d.hear(0, greetingBytes(3))
		d.say(0)
		d.hear(0, replyBytes(8, kind, many(int(n), 0)...))
		d.wantSay(0, goBytes("a"))

		d = newDesk(t, d.what, dirtyPlan())
		d.begin(1, form{}, 8192)
		d.hear(0, greetingBytes(3))
		d.say(0)
		d.hear(0, ackBytes(8))
		d.say(0)
		d.hear(0, contextBytes(1, "base:allocation"), contextBytes(3, "spindle:dirty"), replyBytes(10, kind))
		d.wantSay(0, goBytes("a"))
		d.hear(0, startBytes(8192))
		d.wantFailed(api.CopyState{Size: 8192}, 0, 0, 0)

		for side := range 2 {
			d = newDesk(t, d.what, aPlan())
			d.chooses(side, telling)
			d.hear(side, replyBytes(7, kind, many(9, 0)...))
			d.wantFailed(api.CopyState{}, side, 0, 0)
		}
	}
}

// P23.3: GO may be refused behind an information.
func TestRefusedBehindAnInformation(t *testing.T) {
	d := newDesk(t, "an information", aPlan())
	d.chooses(0, plainly)
	d.hear(0, replyBytes(7, 3, lay(uint16(0), uint64(8192), uint16(1))...))
	d.wantState(api.CopyState{Phase: api.CopyBegin})
	d.hear(0, replyBytes(7, api.RepBlockSize))
	d.wantFailed(api.CopyState{}, 0, 0, 0)
}

// P23.3: a name counts, not its id, nor its place; of one that is told twice the last id; others than those that were asked for are nothing.
func TestContextNames(t *testing.T) {
	for _, x := range []struct {
		what    string
		names   []string
		asks    bool
		holesID uint32 // the id by which holes are told
	}{
		{"none", nil, false, 0},
		{"another", []string{"x:y"}, false, 0},
		{"near ones", []string{"base:allocatio", "base:allocation2", "Base:allocation", "base:", "spindle:unsaved", ""}, false, 0},
		{"it alone", []string{"base:allocation"}, true, 10},
		{"it behind others", []string{"x:y", "spindle:unsaved", "base:allocation"}, true, 12},
		{"it ahead of others", []string{"base:allocation", "spindle:dirty", "x:y"}, true, 10},
		{"it twice", []string{"base:allocation", "x:y", "base:allocation"}, true, 12},
	} {
		d := newDesk(t, x.what, aPlan())
		d.begin(1, form{}, 4096)
		d.hear(0, greetingBytes(3))
		d.hear(0, ackBytes(8))
		d.say(0)
		for n, name := range x.names {
			d.hear(0, contextBytes(uint32(10+n), name))
		}
		d.wantSay(0)
		d.hear(0, ackBytes(10))
		d.hear(0, startBytes(4096))
		if !x.asks {
			d.wantSay(0, goBytes("a"), readBytes(1, 0, 4096))
			continue
		}
		d.wantSay(0, goBytes("a"), statusBytes(1, 0, 4096))
		for n := range x.names { // all but the one that counts tell a hole's opposite
			flags := uint32(0)
			if uint32(10+n) == x.holesID {
				flags = 2
			}
			d.hear(0, runBytes(0, 1, uint32(10+n), run{4096, flags}))
		}
		d.hear(0, chunkBytes(1, 0, 1))
		d.wantSay(0)
		d.wantSay(1, zeroBytes(1, 0, 4096))
	}
}

// P23.3: marks that were not asked for are nothing.
func TestMarksThatWereNotAskedFor(t *testing.T) {
	d := working(t, "marks", aPlan(), both, 4096)
	d.wantSay(0, statusBytes(1, 0, 4096))
	d.hear(0, both.status(1, []run{{4096, 0}}, []run{{4096, 0}}))
	d.wantSay(0, readBytes(2, 0, 4096))
	d.wantState(api.CopyState{Phase: api.CopyWork, Size: 4096})
}

// P23.3: the sizes: the source's counts, it may not be 0, and the target's may not be less.
func TestSizes(t *testing.T) {
	for _, x := range []struct {
		source, target uint64
		works          bool
		side           int
	}{
		{0, 0, false, 0}, {0, 8192, false, 0}, {1, 0, false, 1}, {8192, 8191, false, 1}, {8192, 0, false, 1}, {max64, max64 - 1, false, 1},
		{1, 1, true, 0}, {8192, 8192, true, 0}, {8192, 8193, true, 0}, {512, max64, true, 0}, {max64, max64, true, 0}, {1 << 63, max64, true, 0},
	} {
		for first := range 2 {
			d := newDesk(t, fmt.Sprintf("sizes %d and %d, side %d first", x.source, x.target, first), aPlan())
			size := [2]uint64{x.source, x.target}
			d.begin(first, plainly, size[first])
			d.wantState(api.CopyState{Phase: api.CopyBegin})
			d.begin(1-first, plainly, size[1-first])
			if !x.works {
				d.wantFailed(api.CopyState{Size: x.source}, x.side, 0, 0)
				continue
			}
			d.wantState(api.CopyState{Phase: api.CopyWork, Size: x.source})
		}
	}
	// A source without bytes, or without marks, is told ahead of a target that is too small.
	d := newDesk(t, "both are wrong", dirtyPlan())
	d.begin(0, telling, 8192)
	d.begin(1, form{}, 100)
	d.wantFailed(api.CopyState{Size: 8192}, 0, 0, 0)
}

// P23.3: what no server says breaks the client, on either side, at every point of its beginning.
func TestBrokenBeginnings(t *testing.T) {
	for side := range 2 {
		for _, bad := range [][]byte{many(32, 0), simpleBytes(0, 1), greetingBytes(4), replyBytes(77, 1), lay(greetingBytes(3)[:10], many(20, 0))} {
			for point := range 6 {
				d := newDesk(t, fmt.Sprintf("side %d, broken at point %d", side, point), aPlan())
				steps := [][]byte{greetingBytes(3), ackBytes(8), contextBytes(1, "base:allocation"), ackBytes(10), startBytes(8192)}
				if side == 1 {
					steps = [][]byte{greetingBytes(3), startBytes(8192)}
				}
				for _, b := range steps[:min(point, len(steps))] {
					d.hear(side, b)
				}
				mail := d.p.sides[side].mail
				d.hear(side, bad, many(40, 0))
				d.wantSay(side, mail)
				d.wantFailed(api.CopyState{}, side, 0, 0)
			}
		}
	}
}

// P23.3: what stands behind a message that leads to something to be said comes ahead of its being said, if they come in one piece: that breaks the client, and nothing is said (P23.9).
func TestAnswersAheadOfQuestions(t *testing.T) {
	for side := range 2 {
		d := newDesk(t, "a greeting and more", aPlan())
		d.hear(side, greetingBytes(3), ackBytes(8))
		d.wantSay(side)
		d.wantFailed(api.CopyState{}, side, 0, 0)
	}
	d := newDesk(t, "an acknowledgement and more", aPlan())
	d.hear(0, greetingBytes(3))
	d.say(0)
	d.hear(0, ackBytes(8), ackBytes(10))
	d.wantSay(0)
	d.wantFailed(api.CopyState{}, 0, 0, 0)
	d = newDesk(t, "a start and more", aPlan())
	d.begin(1, form{}, 8192)
	d.chooses(0, plainly)
	d.hear(0, startBytes(8192), plainly.read(1, 0, many(4096, 0)))
	d.wantSay(0)
	d.wantFailed(api.CopyState{Size: 8192}, 0, 0, 0)
}

// P23.3: a side that has begun waits for the other, and hears nothing that leads to anything.
func TestOneSideAlone(t *testing.T) {
	for side := range 2 {
		d := newDesk(t, fmt.Sprint("side ", side), aPlan())
		d.begin(side, telling, 8192)
		d.wantSay(0)
		d.wantSay(1)
		d.hear(side, simpleBytes(0, 1))
		d.wantFailed(api.CopyState{}, side, 0, 0)
	}
}
