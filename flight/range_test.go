package flight_test

import (
	"iter"
	"slices"
	"testing"

	"spindle/api"
	"spindle/flight"
)

// until ranges over the first n entries and leaves the ranging there.
func until(all iter.Seq[api.Entry], n int) []api.Entry {
	var out []api.Entry
	for entry := range all {
		out = append(out, entry)
		if len(out) == n {
			break
		}
	}
	return out
}

// during ranges and does something at each entry, and tells the entries that it went through.
func during(all iter.Seq[api.Entry], do func(id int)) []api.Entry {
	var out []api.Entry
	for entry := range all {
		out = append(out, entry)
		do(entry.ID)
	}
	return out
}

// P13.3, R6: left early, at each place, and gone through again.
func TestLeftEarly(t *testing.T) {
	x, entries := mixed(t)
	all := x.All()
	for range 3 {
		for n := 1; n <= len(entries); n++ {
			wantEntries(t, "left early", until(all, n), entries[:n]...)
			wantEntries(t, "of another answer", until(x.All(), n), entries[:n]...)
		}
		wantEntries(t, "to its end", slices.Collect(all), entries...)
	}
	wantHolds(t, "behind it", x, 6, entries...)
}

// R6: begun again, the ranging tells what there is then.
func TestBegunAgain(t *testing.T) {
	x := fresh(t, 3)
	all := x.All()
	for _, c := range []struct {
		what    string
		do      func()
		entries []api.Entry
	}{
		{"new", func() {}, nil},
		{"1 added", func() { add(t, x, 1, 1) }, rows(pending, 1, 1)},
		{"3 added", func() { add(t, x, 2, 3) }, rows(pending, 1, 3)},
		{"nothing done", func() {}, rows(pending, 1, 3)},
		{"refused", func() { x.Add(request(0)) }, rows(pending, 1, 3)},
		{"2 done", func() { done(t, x, 2) }, []api.Entry{pending(1), ready(2), pending(3)}},
		{"2 taken", func() { x.Take(2) }, []api.Entry{pending(1), pending(3)}},
		{"4 added", func() { add(t, x, 4, 4) }, []api.Entry{pending(1), pending(3), pending(4)}},
		{"cleared", func() { x.Clear() }, nil},
		{"5 added", func() { add(t, x, 5, 5) }, rows(pending, 5, 5)},
	} {
		c.do()
		wantEntries(t, c.what+": again", slices.Collect(all), c.entries...)
		wantEntries(t, c.what+": anew", slices.Collect(x.All()), c.entries...)
	}
}

// R6: one ranging within another, of the same answer too, the inner one left early.
func TestNested(t *testing.T) {
	x := filled(t, 3, 3)
	all := x.All()
	var got [][2]int
	for a := range all {
		for b := range all {
			got = append(got, [2]int{a.ID, b.ID})
			if b.ID == a.ID {
				break
			}
		}
	}
	if !slices.Equal(got, [][2]int{{1, 1}, {2, 1}, {2, 2}, {3, 1}, {3, 2}, {3, 3}}) {
		t.Error("pairs:", got)
	}
}

// R6: what is done to the table meanwhile a ranging does not see.
func TestChangedMeanwhile(t *testing.T) {
	for _, c := range []struct {
		what   string
		do     func(x *flight.Table, id int)
		behind []api.Entry
	}{
		{"each done", func(x *flight.Table, id int) { x.Done(id, answerTo(id)) },
			rows(ready, 2, 5)},
		{"each taken", func(x *flight.Table, id int) { x.Done(id, nil); x.Take(id) },
			nil},
		{"the next one taken", func(x *flight.Table, id int) { x.Done(id+1, nil); x.Take(id + 1) },
			[]api.Entry{pending(2)}},
		{"all taken at once", func(x *flight.Table, _ int) {
			for id := range 6 {
				x.Done(id, nil)
				x.Take(id)
			}
		}, nil},
		{"cleared", func(x *flight.Table, _ int) { x.Clear() },
			nil},
		{"others added", func(x *flight.Table, id int) { x.Add(request(id + 4)) },
			[]api.Entry{pending(2), ready(3), pending(4), ready(5), pending(6), pending(7)}},
		{"cleared and filled again", func(x *flight.Table, id int) { x.Clear(); x.Add(request(id + 4)) },
			rows(pending, 9, 9)},
	} {
		x, entries := mixed(t)
		wantEntries(t, c.what, during(x.All(), func(id int) { c.do(x, id) }), entries...)
		wantHolds(t, c.what+": behind it", x, 6, c.behind...)
	}
}

// R6: rangings that go on side by side, each begun at another moment.
func TestSideBySide(t *testing.T) {
	x := filled(t, 3, 2)
	all := x.All()
	step := func(next func() (api.Entry, bool), entry api.Entry, ok bool) {
		t.Helper()
		got, gotOK := next()
		want(t, "is there one", gotOK, ok)
		want(t, "the next entry", same(got, entry), true)
	}
	next1, stop1 := iter.Pull(all)
	defer stop1()
	step(next1, pending(1), true)
	done(t, x, 2)
	next2, stop2 := iter.Pull(all)
	defer stop2()
	step(next2, pending(1), true)
	done(t, x, 1)
	wantTake(t, x, 1, answerTo(1), api.OK)
	wantTake(t, x, 2, answerTo(2), api.OK)
	add(t, x, 3, 3)
	step(next2, ready(2), true)
	step(next1, pending(2), true)
	step(next2, api.Entry{}, false)
	step(next1, api.Entry{}, false)
	wantHolds(t, "at last", x, 3, pending(3))
}

// R6: a ranging whose body panics leaves the table as it is.
func TestBodyThatPanics(t *testing.T) {
	x, entries := mixed(t)
	func() {
		defer func() { want(t, "recovered", recover(), any("out")) }()
		for range x.All() {
			panic("out")
		}
	}()
	wantHolds(t, "behind it", x, 6, entries...)
}
