package recent_test

import (
	"iter"
	"slices"
	"testing"

	"spindle/recent"
)

// model is an order written down as plainly as the chapter tells of it: a list that is searched.
type model []held[int]

func (m model) at(k int) int {
	return slices.IndexFunc(m, func(h held[int]) bool { return h.key == k })
}

// step does one thing, picked by the dice, to both.
func (m *model) step(t *testing.T, o *recent.Order[int], throw *dice) {
	t.Helper()
	k := throw.below(6)
	i := m.at(k)
	switch throw.below(7) {
	case 0, 1:
		want(t, "Add", o.Add(k), i < 0)
		if i < 0 {
			*m = append(*m, held[int]{k, 0})
		}
	case 2:
		want(t, "Touch", o.Touch(k), i >= 0)
		if i >= 0 {
			h := (*m)[i]
			*m = append(slices.Delete(*m, i, i+1), h)
		}
	case 3:
		want(t, "Drop", o.Drop(k), i >= 0)
		if i >= 0 {
			*m = slices.Delete(*m, i, i+1)
		}
	case 4, 5:
		want(t, "Pin", o.Pin(k), i >= 0)
		if i >= 0 {
			(*m)[i].pins++
		}
	case 6:
		could := i >= 0 && (*m)[i].pins > 0
		want(t, "Unpin", o.Unpin(k), could)
		if could {
			(*m)[i].pins--
		}
	}
}

func (m model) keys(free bool) []int {
	var l []int
	for _, h := range m {
		if !free || h.pins == 0 {
			l = append(l, h.key)
		}
	}
	return l
}

// changed tells what keys tells, and changes both orders at each key.
func (m *model) changed(t *testing.T, o *recent.Order[int], keys iter.Seq[int], throw *dice) iter.Seq[int] {
	return func(yield func(int) bool) {
		for k := range keys {
			for range throw.below(4) {
				m.step(t, o, throw)
			}
			if !yield(k) {
				return
			}
		}
	}
}

// P4.2 to P4.7: an order is at all times as the plain one
func TestAgainstAPlainOrder(t *testing.T) {
	throw := dice(44)
	for range 50 {
		o, m := recent.New[int](), model{}
		for range 200 {
			m.step(t, o, &throw)
			wantHeld(t, "against the plain one", o, m...)
			for k := range 6 {
				want(t, "Has", o.Has(k), m.at(k) >= 0)
			}
			if t.Failed() {
				t.FailNow()
			}
		}
	}
}

// P4.6: whatever is done meanwhile, a ranging tells what there was when it began
func TestRangingAgainstAPlainOrder(t *testing.T) {
	throw := dice(46)
	o, m := recent.New[int](), model{}
	all, free := o.All(), o.Free()
	for range 300 {
		for range 8 {
			m.step(t, o, &throw)
		}
		wantedAll := m.keys(false)
		wantKeys(t, "All, changed meanwhile", m.changed(t, o, all, &throw), wantedAll...)
		wantedFree := m.keys(true)
		wantKeys(t, "Free, changed meanwhile", m.changed(t, o, free, &throw), wantedFree...)
		wantHeld(t, "behind it", o, m...)
		if t.Failed() {
			t.FailNow()
		}
	}
}
