package server_test

import (
	"fmt"
	"testing"

	"spindle/api"
	"spindle/server"
)

// wantStatus looks at what each context tells of a range, whole and with its first run alone.
func wantStatus(t *testing.T, what string, s *server.Server, c int, off, n uint64, wanted map[uint32][]run) {
	t.Helper()
	h := well(t, s, c, request(api.CmdStatus, off, n))
	want(t, what+": contexts", len(h.ids), len(wanted))
	for i, id := range h.ids {
		wantSame(t, fmt.Sprint(what, ": context ", id), h.status[i], wanted[id])
	}
	first := well(t, s, c, request(api.CmdStatus, off, n, api.FlagOne))
	for i, id := range first.ids {
		wantSame(t, fmt.Sprint(what, ": context ", id, ", one run"), first.status[i], wanted[id][:1])
	}
}

// P15.8: block status with every context, of holes and data, saved and not, dirty and not; neighbours with the same flags are joined.
func TestStatus(t *testing.T) {
	type list = []run
	for _, extended := range []bool{false, true} {
		f := form{structured: !extended, extended: extended, contexts: []string{"base:allocation", "spindle:unsaved", "spindle:dirty"}}
		s := started(t, filled(t), config(16, 3, 2))

		c := begun(t, s, f, "a")
		wantStatus(t, "a volume", s, c, 0, 4096, map[uint32]list{1: {{512, 3}, {1024, 0}, {1024, 3}, {512, 0}, {1024, 3}}, 2: {{4096, 0}}})
		wantStatus(t, "a part of it", s, c, 600, 1000, map[uint32]list{1: {{936, 0}, {64, 3}}, 2: {{1000, 0}}})
		well(t, s, c, write(1024, []byte("new")))
		wantStatus(t, "written", s, c, 0, 2048, map[uint32]list{1: {{512, 3}, {1024, 0}, {512, 3}}, 2: {{1024, 0}, {512, 1}, {512, 0}}})
		well(t, s, c, flush())
		wantStatus(t, "flushed", s, c, 0, 2048, map[uint32]list{1: {{512, 3}, {1024, 0}, {512, 3}}, 2: {{2048, 0}}})

		c = begun(t, s, f, "t")
		wantStatus(t, "a track", s, c, 0, 9*512, map[uint32]list{1: {{512, 0}, {7 * 512, 3}, {512, 0}}, 2: {{9 * 512, 0}}, 3: {{512, 0}, {512, 1}, {7 * 512, 0}}})
		well(t, s, c, write(0, []byte("new")))
		wantStatus(t, "written", s, c, 0, 2048, map[uint32]list{1: {{512, 0}, {1536, 3}}, 2: {{512, 1}, {1536, 0}}, 3: {{1024, 1}, {1024, 0}}})
		mustStep(t, s, clears(trackAt))
		wantStatus(t, "cleared", s, c, 0, 2048, map[uint32]list{1: {{512, 0}, {1536, 3}}, 2: {{2048, 0}}, 3: {{2048, 0}}})

		c = begun(t, s, f, "p")
		wantStatus(t, "an overlay", s, c, 0, 6*512, map[uint32]list{1: {{512, 0}, {1024, 3}, {512, 0}, {1024, 3}}, 2: {{6 * 512, 0}}})
		well(t, s, c, request(api.CmdTrim, 0, 512))
		well(t, s, c, write(512, []byte("own"), api.FlagFua))
		wantStatus(t, "its own", s, c, 0, 2048, map[uint32]list{1: {{512, 3}, {512, 0}, {512, 3}, {512, 0}}, 2: {{1024, 1}, {1024, 0}}})
		well(t, s, c, flush())
		wantStatus(t, "no flush saves it", s, c, 0, 2048, map[uint32]list{1: {{512, 3}, {512, 0}, {512, 3}, {512, 0}}, 2: {{1024, 1}, {1024, 0}}})
	}
}

// P15.8: the contexts that were chosen, and no others, in their order.
func TestStatusOfSomeContexts(t *testing.T) {
	for _, x := range []struct {
		names []string
		ids   []uint32
	}{
		{[]string{"spindle:unsaved"}, []uint32{2}}, {[]string{"spindle:dirty"}, []uint32{3}}, {[]string{"spindle:dirty", "base:allocation"}, []uint32{1, 3}},
		{[]string{"spindle:dirty", "spindle:unsaved"}, []uint32{2, 3}}, {[]string{"base:allocation"}, []uint32{1}},
	} {
		for _, extended := range []bool{false, true} {
			s := started(t, filled(t), config(2, 1, 1))
			c := begun(t, s, form{structured: !extended, extended: extended, contexts: x.names}, "t")
			wantSame(t, fmt.Sprint(x.names), well(t, s, c, request(api.CmdStatus, 0, 1024)).ids, x.ids)
		}
	}
}

// P15.8: a block status that fails: EIO and the byte at fault.
func TestStatusFaults(t *testing.T) {
	for _, x := range []struct {
		export string
		sector int
	}{{"a", volumeNotes}, {"t", trackNotes}, {"t", trackMarks}, {"p", privateNotes}} {
		for _, f := range forms()[3:] {
			s := started(t, filled(t), config(4, 1, 1))
			c := begun(t, s, f, x.export)
			mustStep(t, s, fails(api.FaultRead, x.sector, 0))
			ran, h := done(t, s, c, request(api.CmdStatus, 700, 1000))
			wantAnswer(t, x.export, ran, api.Answer{N: 1, Code: api.EIO})
			wantFault(t, x.export, h, true, 700)
			well(t, s, c, request(api.CmdStatus, 700, 1000))
		}
	}
}

// P15.8: the extents are asked for once, however many contexts there are: one look at each sector's note.
func TestStatusAsksOnce(t *testing.T) {
	for _, f := range forms()[3:] {
		s := started(t, filled(t), config(1, 1, 1))
		c := begun(t, s, f, "t")
		// With one line the note and the marks of one sector are read once each.
		mustStep(t, s, fails(api.FaultRead, trackNotes, 1))
		mustStep(t, s, fails(api.FaultRead, trackMarks, 1))
		well(t, s, c, request(api.CmdStatus, 0, 512))
		ran, _ := done(t, s, c, request(api.CmdStatus, 0, 512))
		want(t, f.name+": the second time", ran.Code, api.EIO)
	}
}
