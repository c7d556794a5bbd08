package server_test

import (
	"fmt"
	"testing"

	"spindle/api"
	"spindle/disk"
	"spindle/label"
	"spindle/server"
)

// P15.9: SWrite writes back the dirty data line that was used least lately, and tells its sector; -1, if there is none, whether the cache is empty, clean, or has dirty notes alone.
func TestWriteBack(t *testing.T) {
	s := started(t, filled(t), config(8, 1, 2))
	wantAnswer(t, "no lines", s.Step(writes()), api.Answer{N: -1})
	c := begun(t, s, form{}, "a")
	well(t, s, c, read(0, 4096))
	wantAnswer(t, "clean lines", s.Step(writes()), api.Answer{N: -1})
	well(t, s, c, write(0, []byte("new")))
	well(t, s, c, write(1024, []byte("other")))
	for _, sector := range []int{volumeData, volumeData + 2} {
		before := len(s.Queue())
		wantAnswer(t, "SWrite", s.Step(writes()), api.Answer{N: sector})
		queue := s.Queue()
		want(t, "writes that wait", len(queue), before+1)
		want(t, "the last one's sector", queue[before].Sector, sector)
		wantBytes(t, "its data", queue[before].Data, peeked(t, s, 0)[512*(sector-volumeData):][:512])
	}
	wantAnswer(t, "a dirty note alone", s.Step(writes()), api.Answer{N: -1})
	want(t, "the note waits", len(s.Queue()), 2)
}

// P15.9: SWrite with a fault: ErrIO, and N is 0; the line is dirty still.
func TestWriteBackFault(t *testing.T) {
	s := started(t, filled(t), config(8, 1, 2))
	c := begun(t, s, form{}, "a")
	well(t, s, c, write(512, []byte("new")))
	mustStep(t, s, api.Step{Kind: api.SFault, Fault: api.Fault{Kind: api.FaultWrite, Sector: -1, Times: 2}})
	for range 2 {
		wantRefused(t, "SWrite", s, writes(), api.ErrIO)
	}
	wantAnswer(t, "SWrite again", s.Step(writes()), api.Answer{N: volumeData + 1})
	mustStep(t, s, api.Step{Kind: api.SFault, Fault: api.Fault{Kind: api.FaultWrite, Sector: -1, Times: 1, Land: true}})
	well(t, s, c, write(512, []byte("newer")))
	wantAnswer(t, "one that lands", s.Step(writes()), api.Answer{Err: api.ErrIO})
	want(t, "it waits", len(s.Queue()), 2)
}

// P15.9: SFault answers what the disk does, up and down.
func TestFault(t *testing.T) {
	s := started(t, filled(t), config(8, 1, 2))
	for _, name := range []string{"up", "down"} {
		for _, f := range []api.Fault{{}, {Kind: 4, Times: 1}, {Kind: -1, Times: 1}, {Kind: 1, Sector: -2, Times: 1}, {Kind: 1, Sector: diskSectors, Times: 1}, {Kind: 1, After: -1, Times: 1}, {Kind: 1}, {Kind: 1, Times: -1}} {
			wantRefused(t, fmt.Sprintf("%s: %+v", name, f), s, api.Step{Kind: api.SFault, Fault: f}, api.ErrFault)
		}
		for i := range api.MaxFaults {
			wantAnswer(t, name, s.Step(fails(1+i%3, i%diskSectors, 1000)), api.Answer{})
		}
		wantRefused(t, name+": one too many", s, fails(1, 0, 0), api.ErrFault)
		s.Step(falls())
	}
}

// P15.9: a crash takes all faults along.
func TestCrashDisarms(t *testing.T) {
	s := started(t, filled(t), config(8, 1, 2))
	for k := 1; k <= 3; k++ {
		mustStep(t, s, api.Step{Kind: api.SFault, Fault: api.Fault{Kind: k, Sector: -1, Times: 99}})
	}
	mustStep(t, s, falls())
	wantAnswer(t, "SStart", s.Step(rises()), api.Answer{})
	c := begun(t, s, form{}, "a")
	well(t, s, c, write(0, []byte("x"), api.FlagFua))
}

// P15.9: SCrash keeps of the writes that wait those that it is told to keep, and no others; the server is down, and tells no connections, lines and label.
func TestCrashKeeps(t *testing.T) {
	for keep := range 8 {
		for _, n := range []int{0, 1, 2, 3, 9} {
			s := started(t, filled(t), config(8, 3, 2))
			c := begun(t, s, form{}, "a")
			for i := range 3 {
				well(t, s, c, write(512*uint64([]int{1, 2, 5}[i]), of(512, byte('1'+i))))
				mustStep(t, s, writes())
			}
			asked(t, s, c, read(0, 512))
			mustStep(t, s, opens())
			kept := make([]bool, n)
			wanted := s.Image()
			for i := range kept {
				kept[i] = i >= 3 || keep>>i&1 == 1
				if i < 3 && kept[i] {
					copy(wanted[(volumeData+[]int{1, 2, 5}[i])*512:], of(512, byte('1'+i)))
				}
			}
			what := fmt.Sprintf("keeping %v", kept)
			wantAnswer(t, what, s.Step(falls(kept...)), api.Answer{})
			want(t, what+": Up", s.Up(), false)
			wantSame(t, what+": Look", s.Look(), api.ServerLook{Next: 2})
			wantSame(t, what+": Label", s.Label(), api.Label{})
			_, e := s.Peek(0)
			want(t, what+": Peek", e, api.ErrDown)
			wantBytes(t, what+": Image", s.Image(), wanted)
			want(t, what+": writes that wait", len(s.Queue()), 0)
			mustStep(t, s, rises())
			wantSame(t, what+": Look, up again", s.Look(), api.ServerLook{Up: true, Next: 2})
			wantBytes(t, what+": Image, up again", s.Image(), wanted)
			wantBytes(t, what+": sector 1", peeked(t, s, 0)[512:1024], wanted[(volumeData+1)*512:][:512])
		}
	}
}

// P15.9: connections of all phases, with many tasks, are gone with a crash; so often as one likes.
func TestCrashCutsAll(t *testing.T) {
	s := started(t, filled(t), config(8, api.MaxConns, 8))
	for round := range 20 {
		for i := range api.MaxConns {
			c := begun(t, s, forms()[i%5], several()[i%4].Name)
			want(t, "its number", c, round*api.MaxConns+i)
			for n := range i % 9 {
				asked(t, s, c, read(512*uint64(n%4), 512))
			}
			for range i % 3 {
				s.Step(runs(c, 0))
			}
		}
		want(t, "those that are there", len(s.Look().Conns), api.MaxConns)
		mustStep(t, s, falls())
		want(t, "nobody is there", len(s.Look().Conns), 0)
		mustStep(t, s, rises())
		want(t, "nobody is there", len(s.Look().Conns), 0)
	}
}

// P15.10: SStart reads both heads and one body, and nothing else; a fault at one of these reads leaves the server down.
func TestStartReads(t *testing.T) {
	s := started(t, filled(t), config(8, 1, 2))
	mustStep(t, s, falls())
	for after := range 22 {
		mustStep(t, s, fails(api.FaultRead, -1, after))
		wantRefused(t, fmt.Sprint("a fault behind ", after, " reads"), s, rises(), api.ErrIO)
		want(t, "Up", s.Up(), false)
	}
	mustStep(t, s, fails(api.FaultRead, -1, 22))
	mustStep(t, s, fails(api.FaultWrite, -1, 0))
	mustStep(t, s, fails(api.FaultBarrier, -1, 0))
	wantAnswer(t, "SStart", s.Step(rises()), api.Answer{})
	wantBytes(t, "nothing is written", s.Image(), filled(t))
	c := begun(t, s, form{}, "a")
	ran, _ := done(t, s, c, read(0, 512))
	want(t, "the fault is armed still", ran.Code, api.EIO)
}

// P15.10: the label in force is the one of the disk, whichever slot it stands in; over a spoilt one nothing starts. (No step of a server writes to the label's sectors, so that none spoils it.)
func TestStartOverLabels(t *testing.T) {
	image := filled(t)
	for slot := range 4 {
		d, _ := disk.Load(image)
		exports := several()
		exports[0].Desc = fmt.Sprint("label ", slot)
		want(t, "another label", label.Commit(d, api.Label{Exports: exports}), api.OK)
		image = d.Image()
		s := started(t, image, config(8, 1, 2))
		for range 2 {
			wantSame(t, "the label in force", s.Label(), api.Label{Exports: exports})
			mustStep(t, s, falls(true))
			mustStep(t, s, rises())
		}
		inForce := 1 - slot%2
		wantNoServer(t, "its body is spoilt", turned(image, (2+20*inForce)*512+9), config(8, 1, 2), api.ErrSpoilt)
		wantNoServer(t, "both heads are", turned(turned(image, 9), 512+9), config(8, 1, 2), api.ErrNone)
		older, _ := server.New(turned(image, inForce*512+9), config(8, 1, 2))
		if slot > 0 {
			want(t, "its head is: the one from before", older.Label().Exports[0].Desc, fmt.Sprint("label ", slot-1))
		}
	}
}

// P15.9: SClear of an export that is tracked, of one that is not, of none.
func TestClear(t *testing.T) {
	s := started(t, filled(t), config(16, 2, 2))
	for _, n := range []int{volumeAt, privateAt, fixedAt, -1, 4, 99, -1 << 63, 1<<63 - 1} {
		wantRefused(t, fmt.Sprint("export ", n), s, clears(n), api.ErrStep)
	}
	c, other := begun(t, s, form{}, "t"), begun(t, s, form{}, "a")
	well(t, s, c, write(1000, many(1000)))
	well(t, s, other, write(0, []byte("saved, too")))
	want(t, "the marks", s.Image()[trackMarks*512], 0x70)
	wantAnswer(t, "SClear", s.Step(clears(trackAt)), api.Answer{N: 1})
	want(t, "the marks", s.Image()[trackMarks*512], 0)
	wantAnswer(t, "SClear again", s.Step(clears(trackAt)), api.Answer{N: 1})
	mustStep(t, s, falls())
	mustStep(t, s, rises())
	wantBytes(t, "all is safe", peeked(t, s, trackAt)[1000:2000], many(1000))
	want(t, "of the others, too", string(peeked(t, s, volumeAt)[:10]), "saved, too")
}

// P15.9: SClear that fails at its first flush has moved nothing; behind that it has, and tells both.
func TestClearFaults(t *testing.T) {
	for _, x := range []struct {
		name  string
		fault api.Fault
		n     int
		marks byte
	}{
		{"the first barrier", api.Fault{Kind: api.FaultBarrier}, 0, 0x60},
		{"the marks' reading", api.Fault{Kind: api.FaultRead, Sector: trackMarks}, 1, 0x60},
		{"the marks' writing", api.Fault{Kind: api.FaultWrite, Sector: trackMarks}, 1, 0x60},
		{"the second flush", api.Fault{Kind: api.FaultBarrier, After: 1}, 1, 0x60},
	} {
		image := filled(t)
		image[trackMarks*512] = 0x60
		s := started(t, image, config(4, 2, 2))
		x.fault.Times = 1
		mustStep(t, s, api.Step{Kind: api.SFault, Fault: x.fault})
		wantAnswer(t, x.name, s.Step(clears(trackAt)), api.Answer{Err: api.ErrIO, N: x.n})
		want(t, x.name+": the marks on the disk", s.Image()[trackMarks*512], x.marks)
		wantAnswer(t, x.name+": again", s.Step(clears(trackAt)), api.Answer{N: 1})
		want(t, x.name+": the marks on the disk then", s.Image()[trackMarks*512], 0)
	}
}

// P15.11: telling changes nothing, in each state, and counts nothing: an armed fault is still there.
func TestTellingChangesNothing(t *testing.T) {
	s := crowd(t)
	well(t, s, begun(t, s, form{}, "a"), write(0, []byte("dirty")))
	for k := 1; k <= 3; k++ {
		mustStep(t, s, api.Step{Kind: api.SFault, Fault: api.Fault{Kind: k, Sector: -1, Times: 1}})
	}
	before := stateOf(s)
	for range 3 {
		wantState(t, "told again", s, before)
	}
	asked(t, s, 0, read(512, 512))
	want(t, "the fault is armed still", mustStep(t, s, runs(0, 1)).Code, api.EIO)
	s.Step(falls())
	before = stateOf(s)
	for range 3 {
		wantState(t, "told again, down", s, before)
	}
}

// P15.11: what is told of a server that is up.
func TestTelling(t *testing.T) {
	s := crowd(t)
	want(t, "Up", s.Up(), true)
	wantSame(t, "Label", s.Label(), api.Label{Exports: several()})
	wantSame(t, "Look", s.Look(), api.ServerLook{Up: true, Next: 4, Conns: []api.Served{
		{Conn: 0, Look: api.ConnLook{Phase: api.PhaseWork, Pending: []int{1}, Next: 2}},
		{Conn: 1, Look: api.ConnLook{Phase: api.PhaseWork, Session: api.Session{Index: 1, Structured: true}, Ready: []int{1}, Next: 2}},
		{Conn: 2, Look: api.ConnLook{Phase: api.PhaseFlags, Inbox: 4, Next: 1}},
	}})
	for _, x := range shapes() {
		wantBytes(t, "Peek", peeked(t, s, x.at), x.bytes())
	}
	for _, n := range []int{-1, 4, 5, -1 << 63, 1<<63 - 1} {
		b, e := s.Peek(n)
		want(t, fmt.Sprint("Peek ", n), e, api.ErrArg)
		want(t, fmt.Sprint("Peek ", n), len(b), 0)
	}
	mustStep(t, s, falls())
	for _, n := range []int{-1, 0, 3, 4} {
		b, e := s.Peek(n)
		want(t, fmt.Sprint("Peek ", n, ", down"), e, api.ErrDown)
		want(t, fmt.Sprint("Peek ", n, ", down"), len(b), 0)
	}
}

// P15.11: Look tells the lines in the order of their use, and how many writes wait; Queue tells these.
func TestTellingLines(t *testing.T) {
	s := started(t, filled(t), config(3, 1, 2))
	c := begun(t, s, form{}, "a")
	well(t, s, c, write(512, of(512, '1')))
	well(t, s, c, write(1024, of(512, '2')))
	well(t, s, c, write(2560, of(512, '3')))
	wantSame(t, "lines", s.Look().Lines, []api.Line{{Sector: 45, Dirty: true}, {Sector: 42, Note: true}, {Sector: 48, Dirty: true}})
	want(t, "writes that wait", s.Look().Queue, 1)
	wantQueue(t, "Queue", s.Queue(), []api.Put{{Sector: 44, Data: of(512, '1')}})
}
