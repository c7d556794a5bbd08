package judge

import (
	"cmp"
	"slices"

	"spindle/api"
)

// walk plays operations one by one, as an order tells them.
type walk struct {
	ops    []api.Op
	now    device
	played []bool
	owed   []int // the operations that were answered, by their To; the foremost was not played yet
}

func begin(first []byte, ops []api.Op) *walk {
	w := &walk{ops: ops, now: slices.Clone(first), played: make([]bool, len(ops))}
	for n, op := range ops {
		if answered(op) {
			w.owed = append(w.owed, n)
		}
	}
	slices.SortFunc(w.owed, func(a, b int) int { return cmp.Compare(ops[a].To, ops[b].To) })
	return w
}

// step plays operation n; false, if it may not come next.
func (w *walk) step(n int) bool {
	if n < 0 || n >= len(w.ops) || w.played[n] || w.lacks(w.ops[n]) || !w.now.fits(w.ops[n]) {
		return false
	}
	w.now.play(w.ops[n])
	w.played[n] = true
	for len(w.owed) > 0 && w.played[w.owed[0]] {
		w.owed = w.owed[1:]
	}
	return true
}

// lacks tells whether one that is before op was not played: if any, then the one that was answered first.
func (w *walk) lacks(op api.Op) bool {
	return len(w.owed) > 0 && before(w.ops[w.owed[0]], op)
}

// whole tells whether all that was answered was played.
func (w *walk) whole() bool { return len(w.owed) == 0 }
