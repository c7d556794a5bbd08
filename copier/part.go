package copier

import (
	"math"

	"spindle/api"
)

// A kind says what is done with bytes.
type kind int

const (
	data kind = iota
	zero
	skipped
)

// A part is a row of bytes of a chunk that are alike.
type part struct {
	kind   kind
	off    uint64
	length uint64
}

// A row is what is left of the runs that a context has told.
type row []api.StatusRun

// row gives what the source has told of a context; nothing, if it has not told it.
func (x *copying) row(status []api.ContextRuns, context string) row {
	id, ok := x.sides[source].contexts[context]
	for _, s := range status {
		if ok && s.Context == id {
			return s.Runs
		}
	}
	return nil
}

// reach tells how many bytes more are alike.
func (r row) reach() uint64 {
	if len(r) == 0 {
		return math.MaxUint64
	}
	return r[0].Len
}

// flags tells those of the next byte, if they are told.
func (r row) flags() (uint64, bool) {
	if len(r) == 0 {
		return 0, false
	}
	return r[0].Flags, true
}

// behind gives what is left n bytes further on, within the reach. The runs came in an event, and are nobody else's.
func (r row) behind(n uint64) row {
	if len(r) == 0 {
		return nil
	}
	if r[0].Len > n {
		r[0].Len -= n
		return r
	}
	return r[1:]
}

// divide gives the parts of a chunk, by the answer to its block status (P23.4).
func (x *copying) divide(w *work, status []api.ContextRuns) []part {
	base, dirty := x.row(status, baseContext), x.row(status, dirtyContext)
	var parts []part
	for done := uint64(0); done < w.length; {
		n := min(w.length-done, base.reach(), dirty.reach())
		parts = join(parts, part{x.kindOf(base, dirty), w.off + done, n})
		base, dirty = base.behind(n), dirty.behind(n)
		done += n
	}
	return parts
}

// kindOf tells what is done with the next byte. The marks are noted only of a plan that asks for them.
func (x *copying) kindOf(base, dirty row) kind {
	if flags, told := dirty.flags(); told && flags&api.StateDirty == 0 {
		return skipped
	}
	if flags, told := base.flags(); told && flags&api.StateZero != 0 {
		return zero
	}
	return data
}

// join lets a part join those ahead of it; it is one with the last, if they are alike.
func join(parts []part, p part) []part {
	if last := len(parts) - 1; last >= 0 && parts[last].kind == p.kind {
		parts[last].length += p.length
		return parts
	}
	return append(parts, p)
}
