package backup

import (
	"slices"

	"spindle/api"
)

// maxSize is how many bytes a device has at most.
const maxSize = api.MaxSectors * api.SectorSize

func named(id, parent uint64) bool { return id != 0 && id != parent }

func sized(size uint64) bool { return size > 0 && size <= maxSize }

// whole tells whether an archive stands on no other one.
func whole(a api.Archive) bool { return a.Parent == 0 }

func mayBe(a api.Archive) bool {
	if !named(a.ID, a.Parent) || !sized(a.Size) {
		return false
	}
	end := uint64(0)
	for n, r := range a.Runs {
		switch {
		case !runMayBe(r) || !within(r, end, a.Size):
			return false
		case r.Off > end && whole(a):
			return false
		case n > 0 && touchAlike(a.Runs[n-1], r):
			return false
		}
		end = r.Off + r.Len
	}
	return end == a.Size || !whole(a)
}

// runMayBe tells whether a run by itself may be.
func runMayBe(r api.ArchiveRun) bool {
	bytes := uint64(len(r.Data))
	if r.Hole {
		return r.Len > 0 && bytes == 0
	}
	return r.Len > 0 && bytes == r.Len
}

// within tells whether a run lies between two places. It takes no sum of Off and Len, which could wrap.
func within(r api.ArchiveRun, lo, hi uint64) bool {
	return r.Off >= lo && r.Off <= hi && r.Len <= hi-r.Off
}

// touchAlike tells whether a run touches the one ahead of it, and both are holes, or both data.
func touchAlike(ahead, r api.ArchiveRun) bool {
	return ahead.Off+ahead.Len == r.Off && ahead.Hole == r.Hole
}

// follows tells whether b holds what was changed since a.
func follows(b, a api.Archive) bool { return b.Parent == a.ID && b.Size == a.Size }

// broken tells the first place at which archives are no chain, and why.
func broken(chain []api.Archive) (int, api.Errno) {
	for n, a := range chain {
		switch {
		case !mayBe(a):
			return n, api.ErrArchive
		case n == 0 && !whole(a), n > 0 && !follows(a, chain[n-1]):
			return n, api.ErrLink
		}
	}
	return 0, api.OK
}

// makeUp tells whether extents are those of a device with the bytes b: they lie end to end, and its holes are bytes 0.
func makeUp(b []byte, l []api.Extent) bool {
	at, size := uint64(0), uint64(len(b))
	for _, x := range l {
		if x.Off != at || x.Len == 0 || x.Len > size-at {
			return false
		}
		at += x.Len
		if x.Hole && !zeros(b[x.Off:at]) {
			return false
		}
	}
	return at == size
}

func zeros(b []byte) bool {
	return !slices.ContainsFunc(b, func(v byte) bool { return v != 0 })
}
