package reply

import (
	"math"

	"spindle/api"
)

// Fits tells whether an outcome fits its request (P12.1).
func Fits(s api.Session, r api.Request, o api.Outcome) api.Errno {
	if !fits(s, r, o) {
		return api.ErrOutcome
	}
	return api.OK
}

func fits(s api.Session, r api.Request, o api.Outcome) bool {
	switch {
	case o.Code != 0:
		return tellsNothing(o) && placeFits(r, o)
	case o.Placed || o.At != 0:
		return false
	case r.Type == api.CmdRead:
		return len(o.Runs) == 0 && piecesFit(r, o.Pieces)
	case r.Type == api.CmdStatus:
		return len(o.Pieces) == 0 && statusFits(s, r, o.Runs)
	}
	return tellsNothing(o)
}

func tellsNothing(o api.Outcome) bool { return len(o.Pieces) == 0 && len(o.Runs) == 0 }

// placeFits tells whether an error came at a byte that was asked for. It reckons from the offset on, since a range may pass 2^64.
func placeFits(r api.Request, o api.Outcome) bool {
	if !o.Placed {
		return o.At == 0
	}
	return o.At >= r.Offset && o.At-r.Offset < r.Length
}

// piecesFit tells whether pieces lie end to end over the range. It holds what each is away from the offset against the bytes ahead of it: behind a piece that ends at 2^64 no other is that far away.
func piecesFit(r api.Request, pieces []api.Piece) bool {
	done := uint64(0)
	for _, p := range pieces {
		if !pieceFits(p) || p.Off < r.Offset || p.Off-r.Offset != done || uint64(p.Len) > r.Length-done {
			return false
		}
		done += uint64(p.Len)
	}
	return done == r.Length
}

// pieceFits tells whether a piece is one, by itself.
func pieceFits(p api.Piece) bool {
	told := uint64(p.Len)
	if p.Hole {
		told = 0
	}
	return p.Len > 0 && uint64(len(p.Data)) == told && uint64(p.Len)-1 <= math.MaxUint64-p.Off
}

func statusFits(s api.Session, r api.Request, lists [][]api.StatusRun) bool {
	if !Structured(s, r) || len(s.Contexts) == 0 || len(lists) != len(s.Contexts) {
		return false
	}
	for _, runs := range lists {
		if !runsFit(runs, r.Length, s.Extended) {
			return false
		}
	}
	return true
}

// runsFit takes each run from what is left of the length, since several together may pass 2^64.
func runsFit(runs []api.StatusRun, length uint64, wide bool) bool {
	left := length
	for _, run := range runs {
		if run.Len == 0 || run.Len > left || !wide && max(run.Len, run.Flags) > math.MaxUint32 {
			return false
		}
		left -= run.Len
	}
	return len(runs) > 0 && left == 0
}
