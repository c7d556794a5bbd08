package server

import "spindle/api"

// A device is what tasks are done against: a volume, a track, an overlay. A number beside an error is the byte at fault.
type device interface {
	Size() uint64
	Read(off uint64, n int) ([]byte, uint64, api.Errno)
	Write(off uint64, b []byte) (uint64, api.Errno)
	Zero(off uint64, n uint64, keep bool) (uint64, api.Errno)
	Trim(off uint64, n uint64) (uint64, api.Errno)
	Fetch(off uint64, n uint64) (uint64, api.Errno)
	Sync(off uint64, n uint64) api.Errno
	Flush() api.Errno
	Extents(off uint64, n uint64) ([]api.Extent, uint64, api.Errno)
	Peek(off uint64, n int) ([]byte, api.Errno)
}

// do does a request that the rules let through, and gives what it has come to (P15.8).
func do(d device, s api.Session, q api.Request) api.Outcome {
	switch q.Type {
	case api.CmdRead:
		return read(d, s, q)
	case api.CmdWrite:
		at, e := d.Write(q.Offset, q.Data)
		return changed(d, q, at, e)
	case api.CmdZeroes:
		at, e := d.Zero(q.Offset, q.Length, q.Flags&api.FlagNoHole != 0)
		return changed(d, q, at, e)
	case api.CmdTrim:
		at, e := d.Trim(q.Offset, q.Length)
		return changed(d, q, at, e)
	case api.CmdFlush:
		return ended(d.Flush())
	case api.CmdCache:
		return endedAt(d.Fetch(q.Offset, q.Length))
	}
	return status(d, s, q)
}

// ended is the outcome of a call that tells no byte at fault.
func ended(e api.Errno) api.Outcome {
	if e != api.OK {
		return api.Outcome{Code: api.EIO}
	}
	return api.Outcome{}
}

// endedAt is the outcome of one that does.
func endedAt(at uint64, e api.Errno) api.Outcome {
	if e != api.OK {
		return api.Outcome{Code: api.EIO, Placed: true, At: at}
	}
	return api.Outcome{}
}

// changed is the outcome of a command that changes bytes, which are made safe if that was asked for.
func changed(d device, q api.Request, at uint64, e api.Errno) api.Outcome {
	if e != api.OK || q.Flags&api.FlagFua == 0 {
		return endedAt(at, e)
	}
	return ended(d.Sync(q.Offset, q.Length))
}

// read is the outcome of a read: in pieces, where holes can be told and are not to be data.
func read(d device, s api.Session, q api.Request) api.Outcome {
	b, at, e := d.Read(q.Offset, int(q.Length))
	if e != api.OK {
		return endedAt(at, e)
	}
	if !s.Structured && !s.Extended || q.Flags&api.FlagDF != 0 {
		return api.Outcome{Pieces: []api.Piece{{Off: q.Offset, Len: uint32(len(b)), Data: b}}}
	}
	extents, at, e := d.Extents(q.Offset, q.Length)
	if e != api.OK {
		return endedAt(at, e)
	}
	return api.Outcome{Pieces: pieces(q.Offset, b, joined(extents, api.ContextBase))}
}

// pieces cuts what was read from off on by its runs, of which those with flags are holes.
func pieces(off uint64, b []byte, runs []api.StatusRun) []api.Piece {
	var out []api.Piece
	for _, r := range runs {
		p := api.Piece{Off: off, Len: uint32(r.Len), Hole: r.Flags != 0}
		if !p.Hole {
			p.Data = b[:r.Len:r.Len]
		}
		out = append(out, p)
		off, b = off+r.Len, b[r.Len:]
	}
	return out
}

// status is the outcome of a block status: the runs of each context that was agreed upon.
func status(d device, s api.Session, q api.Request) api.Outcome {
	extents, at, e := d.Extents(q.Offset, q.Length)
	if e != api.OK {
		return endedAt(at, e)
	}
	var o api.Outcome
	for _, context := range s.Contexts {
		o.Runs = append(o.Runs, joined(extents, context))
	}
	return o
}

// joined gives extents as runs with a context's flags; neighbours with the same flags are one.
func joined(extents []api.Extent, context uint32) []api.StatusRun {
	var out []api.StatusRun
	for _, x := range extents {
		r := api.StatusRun{Len: x.Len, Flags: flags(x, context)}
		if n := len(out); n > 0 && out[n-1].Flags == r.Flags {
			out[n-1].Len += r.Len
		} else {
			out = append(out, r)
		}
	}
	return out
}

// flags are what a context says of an extent.
func flags(x api.Extent, context uint32) uint64 {
	switch {
	case context == api.ContextBase && x.Hole:
		return api.StateHole | api.StateZero
	case context == api.ContextUnsaved && x.Unsaved:
		return api.StateUnsaved
	case context == api.ContextDirty && x.Dirty:
		return api.StateDirty
	}
	return 0
}
