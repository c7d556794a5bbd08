package flight_test

import (
	"bytes"
	"fmt"
	"slices"
	"testing"

	"spindle/api"
	"spindle/flight"
)

// plain is a table written down as plainly as the chapter tells of it: a list that is searched.
type plain struct {
	most    int
	given   int
	entries []api.Entry // by rising number, since each number is above those ahead of it
}

func (p *plain) at(id int) int {
	return slices.IndexFunc(p.entries, func(entry api.Entry) bool { return entry.ID == id })
}

func (p *plain) add(q api.Request) (int, api.Errno) {
	if len(p.entries) >= p.most {
		return 0, api.ErrFull
	}
	p.given++
	p.entries = append(p.entries, api.Entry{ID: p.given, Req: q})
	return p.given, api.OK
}

func (p *plain) done(id int, answer []byte) api.Errno {
	i := p.at(id)
	if i < 0 {
		return api.ErrEntry
	}
	if p.entries[i].Ready {
		return api.ErrState
	}
	p.entries[i].Ready, p.entries[i].Answer = true, answer
	return api.OK
}

func (p *plain) take(id int) ([]byte, api.Errno) {
	i := p.at(id)
	if i < 0 {
		return nil, api.ErrEntry
	}
	if !p.entries[i].Ready {
		return nil, api.ErrState
	}
	answer := p.entries[i].Answer
	p.entries = slices.Delete(slices.Clone(p.entries), i, i+1)
	return answer, api.OK
}

func (p *plain) clear() int {
	n := len(p.entries)
	p.entries = nil
	return n
}

// The calls that change a table.
const (
	callAdd = iota
	callDone
	callTake
	callClear
)

type call struct{ kind, id int }

// both makes a call on both tables and looks that they answer the same. What is handed in is told apart by the call's place in the script.
func (p *plain) both(t *testing.T, x *flight.Table, c call, place int) {
	t.Helper()
	what := fmt.Sprintf("call %d, %v", place, c)
	switch c.kind {
	case callAdd:
		id, e := p.add(request(place))
		wantAdd(t, what, x, request(place), id, e)
	case callDone:
		answer := bytes.Repeat([]byte{byte(place)}, place%4)
		want(t, what, x.Done(c.id, answer), p.done(c.id, answer))
	case callTake:
		answer, e := p.take(c.id)
		wantTake(t, x, c.id, answer, e)
	case callClear:
		want(t, what, x.Clear(), p.clear())
	}
}

// thrown makes a call that is thrown on both tables; mostly of a number that was given not long ago.
func (p *plain) thrown(t *testing.T, x *flight.Table, throw *dice) {
	t.Helper()
	id := p.given + 2 - throw.below(p.most+p.most/2+4)
	c := call{id: id}
	switch n := throw.below(200); {
	case n < 70:
		c.kind = callAdd
	case n < 135:
		c.kind = callDone
	case n < 199:
		c.kind = callTake
	default:
		c.kind = callClear
	}
	p.both(t, x, c, throw.below(100_000))
}

// P13.1 to P13.5: every script of a few calls.
func TestEveryShortScript(t *testing.T) {
	calls := []call{{callAdd, 0}, {callClear, 0}}
	for id := 1; id <= 3; id++ {
		calls = append(calls, call{callDone, id}, call{callTake, id})
	}
	const length = 5
	scripts := 1
	for range length {
		scripts *= len(calls)
	}
	for _, most := range []int{1, 2, 3} {
		for n := range scripts {
			x, p := fresh(t, most), plain{most: most}
			for place, left := 1, n; place <= length; place, left = place+1, left/len(calls) {
				p.both(t, x, calls[left%len(calls)], place)
			}
			wantHolds(t, fmt.Sprintf("script %d", n), x, most, p.entries...)
			if t.Failed() {
				t.FailNow()
			}
		}
	}
}

// P13.1 to P13.5: long scripts of calls in any order, for tables of all sizes.
func TestThrownScripts(t *testing.T) {
	throw := dice(131)
	for most := 1; most <= 64; most++ {
		x, p := fresh(t, most), plain{most: most}
		for n := range 600 {
			p.thrown(t, x, &throw)
			if n%5 == 0 {
				wantHolds(t, fmt.Sprintf("behind %d calls", n+1), x, most, p.entries...)
			}
			if t.Failed() {
				t.FailNow()
			}
		}
		wantHolds(t, "at last", x, most, p.entries...)
	}
}

// R6: whatever is done meanwhile, a ranging tells what there was when it began.
func TestThrownRangings(t *testing.T) {
	throw := dice(136)
	for _, most := range []int{1, 2, 5, 64} {
		x, p := fresh(t, most), plain{most: most}
		all := x.All()
		for range 100 {
			for range throw.below(2 * most) {
				p.thrown(t, x, &throw)
			}
			began := slices.Clone(p.entries)
			n := throw.below(most+1) + 1
			var got []api.Entry
			for entry := range all {
				for range throw.below(4) {
					p.thrown(t, x, &throw)
				}
				if got = append(got, entry); len(got) == n {
					break
				}
			}
			wantEntries(t, "changed meanwhile", got, began[:min(n, len(began))]...)
			wantHolds(t, "behind it", x, most, p.entries...)
			if t.Failed() {
				t.FailNow()
			}
		}
	}
}
