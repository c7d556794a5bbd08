package extent

import (
	"iter"
	"slices"
)

// Runs gives the runs of a part to range over (P2.5).
func (m *Map[V]) Runs(lo, hi int64) iter.Seq[Run[V]] {
	return func(yield func(Run[V]) bool) {
		for _, r := range m.part(lo, hi) {
			if !yield(r) {
				return
			}
		}
	}
}

// part gives the runs of a part as a list of their own, since Set changes the map's list in its place, and the ranging must not see it.
func (m *Map[V]) part(lo, hi int64) []Run[V] {
	if !m.usable() {
		return nil
	}
	lo, hi = max(lo, 0), min(hi, m.size)
	if lo >= hi {
		return nil
	}
	l := slices.Clone(m.runs[m.find(lo) : m.find(hi-1)+1])
	l[0].Lo, l[len(l)-1].Hi = lo, hi
	return l
}

// Copy gives a map of its own (P2.7).
func (m *Map[V]) Copy() *Map[V] {
	if !m.usable() {
		return nil
	}
	c := &Map[V]{made: true, size: m.size}
	for r := range m.Runs(0, m.size) {
		c.runs = append(c.runs, r)
	}
	return c
}

// Same tells whether two maps are the same (P2.8).
func Same[V comparable](a, b *Map[V]) bool {
	if !a.usable() || !b.usable() {
		return a.usable() == b.usable()
	}
	if a.size != b.size {
		return false
	}
	same := true
	sideBySide(a, b, func(_, _ int64, x, y V) bool {
		same = alike(x, y)
		return same
	})
	return same
}

// sideBySide hands on each stretch in which neither of two maps of one size turns, with the values of both, rising, until it is told to stop.
func sideBySide[V comparable](a, b *Map[V], each func(lo, hi int64, x, y V) bool) {
	for r := range a.Runs(0, a.size) {
		for s := range b.Runs(r.Lo, r.Hi) {
			if !each(s.Lo, s.Hi, r.V, s.V) {
				return
			}
		}
	}
}
