package copier_test

import (
	"fmt"
	"slices"
	"testing"

	"spindle/api"
)

// A moment is what a side has heard at a time, and what was to be seen then.
type moment struct {
	side  int
	b     []byte
	state api.CopyState
	mails [2][]byte
}

// recorded is a whole copy between hosts, moment by moment; of all together that a host has to say, or of one message at a time.
func recorded(t *testing.T, what string, plan api.CopyPlan, f form, together bool) []moment {
	t.Helper()
	s := newScene(t, what, plan, f, 27)
	var out []moment
	n := 0
	for idle := 0; idle < 2; n++ {
		side := n % 2
		idle++
		b := s.hosts[side].next()
		for more := b; together && more != nil; {
			more = s.hosts[side].next()
			b = append(b, more...)
		}
		if b == nil {
			continue
		}
		idle = 0
		s.hear(side, b)
		m := moment{side: side, b: b, state: s.c.State(), mails: [2][]byte{s.say(0), s.say(1)}}
		for k, h := range s.hosts {
			h.take(t, m.mails[k])
		}
		out = append(out, m)
	}
	want(t, what+": the phase", s.c.State().Phase, api.CopyDone)
	return out
}

// replay lets a fresh copier hear the same, each moment cut at places; at its end what is to be seen is the same.
func replay(t *testing.T, what string, plan api.CopyPlan, list []moment, places func(n int, b []byte) []int) {
	t.Helper()
	d := newDesk(t, what, plan)
	for n, m := range list {
		from := 0
		for _, at := range append(places(n, m.b), len(m.b)) {
			d.hear(m.side, m.b[from:at])
			from = at
		}
		d.what = fmt.Sprintf("%s, moment %d", what, n)
		d.wantState(m.state)
		d.wantSay(0, m.mails[0])
		d.wantSay(1, m.mails[1])
	}
}

// P23.9: into which pieces the bytes are divided is not seen: every moment of a copy, cut at every place (of a long one near the ends of its messages), and all of it in pieces of one size.
func TestPieces(t *testing.T) {
	for _, f := range forms() {
		for _, plan := range []api.CopyPlan{aPlan(), dirtyPlan()} {
			for _, together := range []bool{false, true} {
				if !mayWork(plan, f) {
					continue
				}
				what := fmt.Sprintf("%s, dirty %v, together %v", f.name, plan.Dirty, together)
				list := recorded(t, what, plan, f, together)
				for _, size := range []int{1, 2, 7, 16, 100, 4096, 4112, 5000} {
					replay(t, fmt.Sprintf("%s, pieces of %d", what, size), plan, list, func(_ int, b []byte) []int {
						var out []int
						for at := size; at < len(b); at += size {
							out = append(out, at)
						}
						return out
					})
				}
				for n, m := range list {
					for at := 1; at < len(m.b); at++ {
						if at > 45 && at < len(m.b)-45 {
							continue
						}
						replay(t, fmt.Sprintf("%s, moment %d cut at %d", what, n, at), plan, list[:n+1], func(k int, _ []byte) []int {
							if k == n {
								return []int{at}
							}
							return nil
						})
					}
				}
			}
		}
	}
}

// P23.9: moments of the two sides may come in any order, as far as each side's own go: cut anywhere, half of one side's between two halves of the other's.
func TestPiecesOfBothSides(t *testing.T) {
	d := dice(7)
	for r := range 200 {
		plan := aPlan()
		plan.Flight = 1 + r%4
		whole, cut := newScene(t, fmt.Sprint("whole ", r), plan, both, 30), newDesk(t, fmt.Sprint("cut ", r), plan)
		for idle := 0; idle < 40; idle++ {
			side := d.below(2)
			h := whole.hosts[side]
			h.take(t, whole.say(side))
			cut.say(side)
			b := h.next()
			if b == nil {
				continue
			}
			idle = 0
			whole.hear(side, b)
			for rest := b; len(rest) > 0; {
				n := min(1+d.below(pick(&d, 20, 3000)), len(rest))
				cut.hear(side, rest[:n])
				rest = rest[n:]
			}
			cut.wantState(whole.c.State())
			wantBytes(t, cut.what, cut.p.sides[0].mail, whole.p.sides[0].mail)
			wantBytes(t, cut.what, cut.p.sides[1].mail, whole.p.sides[1].mail)
		}
		whole.wantCopy(false)
	}
}

// P23.9: when the mail is taken away is not seen either: taken at once, or all at the end, it has the same bytes.
func TestMailTakenLate(t *testing.T) {
	list := recorded(t, "late", aPlan(), both, true)
	d := newDesk(t, "late", aPlan())
	var mails [2][][]byte
	for _, m := range list {
		d.hear(m.side, m.b)
		d.wantState(m.state)
		for k := range mails {
			mails[k] = append(mails[k], m.mails[k])
		}
	}
	d.wantSay(1, slices.Concat(mails[1]...))
	d.wantSay(0, slices.Concat(mails[0]...))
}
