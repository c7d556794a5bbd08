package server_test

import (
	"bytes"
	"fmt"
	"slices"
	"testing"

	"spindle/api"
	"spindle/server"
)

// changed does a command to an array of bytes, as its name says (W1).
func changed(array []byte, q api.Request) []byte {
	out := slices.Clone(array)
	end := q.Offset + q.Length
	switch q.Type {
	case api.CmdWrite:
		copy(out[q.Offset:], q.Data)
	case api.CmdZeroes:
		clear(out[q.Offset:end])
	case api.CmdTrim:
		for s := uint64(0); s < uint64(len(out)); s += 512 {
			if q.Offset <= s && s+512 <= end {
				clear(out[s : s+512])
			}
		}
	}
	return out
}

// changes are commands that change bytes of an export of some size, with the flags that they may have.
func changes(size uint64) []api.Request {
	var out []api.Request
	for _, r := range [][2]uint64{{0, 512}, {512, 512}, {0, size}, {100, 3}, {510, 4}, {511, 1026}, {100, 1500}, {size - 1, 1}, {1024, 1}, {size - 512, 512}} {
		for _, fua := range []uint16{0, api.FlagFua} {
			out = append(out, write(r[0], many(int(r[1])), fua), request(api.CmdZeroes, r[0], r[1], fua), request(api.CmdZeroes, r[0], r[1], fua, api.FlagNoHole), request(api.CmdTrim, r[0], r[1], fua))
			if r[0]%512 == 0 && r[1]%512 == 0 {
				out = append(out, request(api.CmdZeroes, r[0], r[1], fua, api.FlagFast))
			}
		}
	}
	return out
}

// mine gives the bytes as a connection reads them.
func mine(t *testing.T, s *server.Server, c int, size uint64) []byte {
	t.Helper()
	return well(t, s, c, read(0, size)).data
}

// P15.8, W1: every command that changes bytes, over a volume, a track and an overlay, in every form: the array is changed as its name says, the connection's own one alone of a private export.
func TestChanges(t *testing.T) {
	for _, f := range forms() {
		for _, x := range shapes()[:3] {
			size := uint64(len(x.sectors)) * 512
			s := started(t, filled(t), config(5, 2, 2))
			c, other := begun(t, s, f, x.name), begun(t, s, f, x.name)
			array := x.bytes()
			for _, q := range changes(size) {
				what := fmt.Sprintf("%s, export %s, command %d with flags %d, %d bytes from %d on", f.name, x.name, q.Type, q.Flags, q.Length, q.Offset)
				wantSame(t, what, well(t, s, c, q), heard{})
				array = changed(array, q)
				wantBytes(t, what, mine(t, s, c, size), array)
				if x.at == privateAt {
					wantBytes(t, what+": Peek", peeked(t, s, x.at), x.bytes())
					wantBytes(t, what+": of another connection", mine(t, s, other, size), x.bytes())
				} else {
					wantBytes(t, what+": Peek", peeked(t, s, x.at), array)
					wantBytes(t, what+": of another connection", mine(t, s, other, size), array)
				}
			}
			for _, y := range shapes() {
				if y.at != x.at {
					wantBytes(t, "another export", peeked(t, s, y.at), y.bytes())
				}
			}
		}
	}
}

// P15.8: FlagNoHole keeps zeros laid out; without it whole sectors become holes; a trim makes holes of whole sectors, and leaves the rest as it is.
func TestHolesOfChanges(t *testing.T) {
	for _, x := range shapes()[:3] {
		for _, c := range []struct {
			q     api.Request
			holes string // of sectors 0 to 3: h is a hole
		}{
			{request(api.CmdZeroes, 0, 2048), "hhhh"},
			{request(api.CmdZeroes, 0, 2048, api.FlagNoHole), "dddd"},
			{request(api.CmdZeroes, 0, 2048, api.FlagNoHole, api.FlagFua), "dddd"},
			{request(api.CmdZeroes, 0, 2048, api.FlagFua), "hhhh"},
			{request(api.CmdZeroes, 0, 2048, api.FlagFast), "hhhh"},
			{request(api.CmdTrim, 0, 2048), "hhhh"},
			{request(api.CmdTrim, 0, 2047), "hhhd"},
			{request(api.CmdTrim, 1, 2047), "dhhh"},
			{request(api.CmdTrim, 1, 2046), "dhhd"},
			{request(api.CmdZeroes, 1, 2046), "dhhd"},
			{request(api.CmdTrim, 100, 300), "dddd"},
			{write(512, make([]byte, 1024)), "dddd"},
		} {
			s := started(t, filled(t), config(5, 1, 2))
			n := begun(t, s, form{structured: true}, x.name)
			well(t, s, n, write(0, of(2048, 'z')))
			well(t, s, n, c.q)
			holes := ""
			for i := range uint64(4) {
				holes += string("dh"[b2i(well(t, s, n, read(512*i, 512)).parts[0].hole)])
			}
			want(t, fmt.Sprintf("export %s, command %d with flags %d, %d bytes from %d on", x.name, c.q.Type, c.q.Flags, c.q.Length, c.q.Offset), holes, c.holes)
		}
	}
}

func b2i(b bool) int {
	if b {
		return 1
	}
	return 0
}

// P15.8, W2: with FlagFua what a command made is there behind a crash that keeps nothing; without it nothing is safe, and a flush makes it so. Of a private export nothing ever is.
func TestSafeOrNot(t *testing.T) {
	for _, x := range shapes()[:3] {
		size := uint64(len(x.sectors)) * 512
		for _, q := range []api.Request{write(100, many(1000)), request(api.CmdZeroes, 0, 1024), request(api.CmdZeroes, 0, size, api.FlagNoHole), request(api.CmdTrim, 0, size)} {
			for _, how := range []string{"nothing", "fua", "flush", "flush of another"} {
				s := started(t, filled(t), config(32, 2, 2))
				c, other := begun(t, s, form{}, x.name), begun(t, s, form{}, "a")
				q.Flags &^= api.FlagFua
				if how == "fua" {
					q.Flags |= api.FlagFua
				}
				well(t, s, c, q)
				if how == "flush" {
					wantSame(t, "a flush", well(t, s, c, flush()), heard{})
				}
				if how == "flush of another" {
					well(t, s, other, flush())
				}
				mustStep(t, s, falls())
				mustStep(t, s, rises())
				wanted := x.bytes()
				if how != "nothing" && x.at != privateAt {
					wanted = changed(wanted, q)
				}
				wantBytes(t, fmt.Sprintf("export %s, command %d, %s", x.name, q.Type, how), peeked(t, s, x.at), wanted)
			}
		}
	}
}

// P15.8: FlagFua makes the bytes of its range safe, and no more than it must: another dirty line waits still. Of other commands it does nothing.
func TestFuaOfItsRange(t *testing.T) {
	s := started(t, filled(t), config(32, 1, 2))
	c := begun(t, s, form{}, "a")
	well(t, s, c, write(512, []byte("one")))
	well(t, s, c, write(1024, []byte("two"), api.FlagFua))
	wantSame(t, "lines", s.Look().Lines, []api.Line{{Sector: 44, Dirty: true}, {Sector: 42, Note: true}, {Sector: 45}})
	well(t, s, c, read(0, 512, api.FlagFua))
	well(t, s, c, request(api.CmdCache, 0, 512, api.FlagFua))
	want(t, "a read and a fetch with FlagFua write nothing", s.Look().Lines[0].Dirty, true)
	mustStep(t, s, falls())
	mustStep(t, s, rises())
	want(t, "the one", string(peeked(t, s, 0)[512:515]), "bbb")
	want(t, "the other", string(peeked(t, s, 0)[1024:1027]), "two")
}

// P15.8: a fetch brings what is laid out into the cache, and tells nothing.
func TestFetch(t *testing.T) {
	for _, f := range forms() {
		s := started(t, filled(t), config(32, 3, 2))
		wantSame(t, "a volume", well(t, s, begun(t, s, f, "a"), request(api.CmdCache, 0, 4096)), heard{})
		wantSame(t, "a volume's lines", sectorsOf(s), []int{44, 45, 48, 42})
		wantSame(t, "a track", well(t, s, begun(t, s, f, "t"), request(api.CmdCache, 100, 600)), heard{})
		wantSame(t, "a track's lines", sectorsOf(s), []int{44, 45, 48, 42, 53, 51})
		wantSame(t, "an overlay", well(t, s, begun(t, s, f, "p"), request(api.CmdCache, 1535, 2)), heard{})
		wantSame(t, "an overlay's lines", sectorsOf(s), []int{44, 45, 48, 42, 53, 51, 62, 66})
		for _, x := range shapes() {
			wantBytes(t, "the export", peeked(t, s, x.at), x.bytes())
		}
	}
}

func sectorsOf(s *server.Server) []int {
	var out []int
	for _, l := range s.Look().Lines {
		out = append(out, l.Sector)
	}
	return out
}

// P15.8, W5: commands that fail, by the sector and the operation at which they do: EIO, with the byte at fault where an answer has a place for it; each sector of the range is what it was or what the command makes it, all others are as they were.
func TestChangeFaults(t *testing.T) {
	for _, x := range []struct {
		name   string
		export string
		fault  api.Fault
		q      api.Request
		placed bool
		at     uint64
	}{
		{"a write at a note", "a", api.Fault{Kind: api.FaultRead, Sector: volumeNotes}, write(300, many(1000)), true, 300},
		{"a write at data", "a", api.Fault{Kind: api.FaultRead, Sector: volumeData + 2}, write(300, many(1000)), true, 1024},
		{"a write when it is to be safe", "a", api.Fault{Kind: api.FaultBarrier, Sector: -1}, write(300, many(1000), api.FlagFua), false, 0},
		{"a write that can't be written", "a", api.Fault{Kind: api.FaultWrite, Sector: -1}, write(300, many(1000), api.FlagFua), false, 0},
		{"zeros at data", "a", api.Fault{Kind: api.FaultRead, Sector: volumeData + 2}, request(api.CmdZeroes, 300, 1000), true, 1024},
		{"kept zeros at data", "a", api.Fault{Kind: api.FaultRead, Sector: volumeData + 2}, request(api.CmdZeroes, 300, 1000, api.FlagNoHole), true, 1024},
		{"zeros when they are to be safe", "a", api.Fault{Kind: api.FaultBarrier, Sector: -1}, request(api.CmdZeroes, 300, 1000, api.FlagFua), false, 0},
		{"a trim at a note", "a", api.Fault{Kind: api.FaultRead, Sector: volumeNotes}, request(api.CmdTrim, 300, 1300), true, 512},
		{"a trim when it is to be safe", "a", api.Fault{Kind: api.FaultBarrier, Sector: -1, After: 1}, request(api.CmdTrim, 300, 1300, api.FlagFua), false, 0},
		{"a flush", "a", api.Fault{Kind: api.FaultBarrier, Sector: -1}, flush(), false, 0},
		{"a fetch at a note", "a", api.Fault{Kind: api.FaultRead, Sector: volumeNotes}, request(api.CmdCache, 300, 1000), true, 300},
		{"a fetch at data", "a", api.Fault{Kind: api.FaultRead, Sector: volumeData + 1}, request(api.CmdCache, 300, 1000), true, 512},
		{"a track's mark that is not to be read", "t", api.Fault{Kind: api.FaultRead, Sector: trackMarks}, write(300, many(1000)), true, 300},
		{"a track's mark that can't be safe", "t", api.Fault{Kind: api.FaultBarrier, Sector: -1}, request(api.CmdZeroes, 300, 1000), true, 300},
		{"a track's trim, its mark", "t", api.Fault{Kind: api.FaultWrite, Sector: trackMarks}, request(api.CmdTrim, 300, 1300), true, 300},
		{"a track's write when it is to be safe", "t", api.Fault{Kind: api.FaultBarrier, Sector: -1, After: 1}, write(300, many(1000), api.FlagFua), false, 0},
		{"a track's flush", "t", api.Fault{Kind: api.FaultBarrier, Sector: -1}, flush(), false, 0},
		{"an overlay's write", "p", api.Fault{Kind: api.FaultRead, Sector: privateData + 3}, write(600, many(1000)), true, 1536},
		{"an overlay's zeros", "p", api.Fault{Kind: api.FaultRead, Sector: privateNotes}, request(api.CmdZeroes, 600, 1000), true, 600},
		{"an overlay's fetch", "p", api.Fault{Kind: api.FaultRead, Sector: privateData}, request(api.CmdCache, 5, 1000), true, 5},
	} {
		for _, f := range []form{{}, {structured: true}, {extended: true}} {
			x.fault.Times = 1
			s := started(t, filled(t), config(16, 2, 2))
			c := begun(t, s, f, x.export)
			before := stateOf(s)
			mustStep(t, s, api.Step{Kind: api.SFault, Fault: x.fault})
			ran, h := done(t, s, c, x.q)
			wantAnswer(t, x.name, ran, api.Answer{N: 1, Code: api.EIO})
			wanted := heard{code: api.EIO}
			if f.extended {
				wanted.placed, wanted.at = x.placed, x.at
			}
			wantSame(t, x.name, h, wanted)
			wantHalf(t, x.name, s, before, x.q, x.export)
			wantSame(t, x.name+": again", well(t, s, c, x.q), heard{})
		}
	}
}

// wantHalf looks that of a command that failed each sector in its range is what it was or what the command makes it, and that all others are as they were.
func wantHalf(t *testing.T, what string, s *server.Server, before state, q api.Request, export string) {
	t.Helper()
	for i, e := range several() {
		was, now := before.peeks[i+1], peeked(t, s, i)
		made := was
		if e.Name == export && !e.Private {
			made = changed(was, q)
		}
		for at := 0; at < len(now); at += 512 {
			sector := now[at : at+512]
			if !bytes.Equal(sector, was[at:at+512]) && !bytes.Equal(sector, made[at:at+512]) {
				t.Errorf("%s: export %d, sector %d is neither what it was nor what it was to be", what, i, at/512)
			}
		}
	}
}

// P15.8: commands over a full cache that can't write a line back fail at the byte at which they come to it.
func TestFullCacheFault(t *testing.T) {
	s := started(t, filled(t), config(2, 1, 2))
	c := begun(t, s, form{extended: true}, "a")
	mustStep(t, s, api.Step{Kind: api.SFault, Fault: api.Fault{Kind: api.FaultWrite, Sector: volumeData, Times: 1}})
	ran, h := done(t, s, c, write(0, many(1024)))
	want(t, "code", ran.Code, api.EIO)
	wantSame(t, "the second sector", h, heard{code: api.EIO, placed: true, at: 512})
	wantBytes(t, "the first is written", peeked(t, s, 0), lay(many(512), shapes()[0].bytes()[512:]))
}

// The overlay of a private export ends with its connection: another one begins with the export's bytes; a crash takes it, too.
func TestOverlayEnds(t *testing.T) {
	s := started(t, filled(t), config(5, 2, 2))
	x := shapes()[privateAt]
	for range 3 {
		c := begun(t, s, form{}, "p")
		wantBytes(t, "at first", mine(t, s, c, 3072), x.bytes())
		well(t, s, c, write(0, many(3072), api.FlagFua))
		wantBytes(t, "written", mine(t, s, c, 3072), many(3072))
		well(t, s, c, flush())
		wantBytes(t, "flushed", mine(t, s, c, 3072), many(3072))
		want(t, "nothing comes to the disk", len(s.Queue()), 0)
		wantBytes(t, "Peek", peeked(t, s, privateAt), x.bytes())
		mustStep(t, s, shuts(c))
	}
	c := begun(t, s, form{}, "p")
	well(t, s, c, write(0, many(3072)))
	mustStep(t, s, falls(true, true, true))
	mustStep(t, s, rises())
	wantBytes(t, "behind a crash", mine(t, s, begun(t, s, form{}, "p"), 3072), x.bytes())
	wantBytes(t, "the disk", s.Image(), filled(t))
}
