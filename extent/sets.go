package extent

import (
	"cmp"
	"slices"

	"spindle/api"
)

// Normal gives the normal list of a set (P2.9).
func Normal(l []api.Range) []api.Range { return listed(setOf(l)) }

// Union gives the places of either set (P2.10).
func Union(a, b []api.Range) []api.Range {
	return picked(a, b, func(inA, inB bool) bool { return inA || inB })
}

// Minus gives the places of the first set that the second one has not (P2.10).
func Minus(a, b []api.Range) []api.Range {
	return picked(a, b, func(inA, inB bool) bool { return inA && !inB })
}

// Meet gives the places of both sets (P2.10).
func Meet(a, b []api.Range) []api.Range {
	return picked(a, b, func(inA, inB bool) bool { return inA && inB })
}

// Sum tells how many places a set has (P2.11).
func Sum(l []api.Range) int64 {
	var n int64
	for _, r := range Normal(l) {
		n += r.Hi - r.Lo
	}
	return n
}

// setOf gives the map that is true at the places of a list's set.
func setOf(l []api.Range) *Map[bool] {
	m, _ := New(api.MaxExtent, false)
	for _, r := range rising(l) {
		m.Set(r.Lo, r.Hi, true)
	}
	return m
}

// rising gives those parts of ranges that may lie in a set, by their beginnings: so setOf changes its map near its end alone, and need not move what lies behind.
func rising(l []api.Range) []api.Range {
	var out []api.Range
	for _, r := range l {
		r.Lo, r.Hi = max(r.Lo, 0), min(r.Hi, api.MaxExtent)
		if r.Lo < r.Hi {
			out = append(out, r)
		}
	}
	slices.SortFunc(out, func(a, b api.Range) int { return cmp.Compare(a.Lo, b.Lo) })
	return out
}

// listed gives the ranges in which a map is true.
func listed(m *Map[bool]) []api.Range {
	var l []api.Range
	for r := range m.Runs(0, m.size) {
		if r.V {
			l = append(l, api.Range{Lo: r.Lo, Hi: r.Hi})
		}
	}
	return l
}

// picked gives the normal list of the places that pick takes by whether they are in the one set and in the other.
func picked(a, b []api.Range, pick func(inA, inB bool) bool) []api.Range {
	m := setOf(nil)
	sideBySide(setOf(a), setOf(b), func(lo, hi int64, inA, inB bool) bool {
		m.Set(lo, hi, pick(inA, inB))
		return true
	})
	return listed(m)
}
