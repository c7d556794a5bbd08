package engine_test

import (
	"math"
	"strings"
	"testing"

	"spindle/api"
	"spindle/server"
)

// wantNotRun asks for what Run has to say of a script that is not played.
func wantNotRun(t *testing.T, what string, s script, wanted api.Errno) {
	t.Helper()
	_, e := runOf(t, s)
	wantErr(t, what+": Run", e, wanted)
}

// holdRun holds Run of a script against the plain reading.
func holdRun(t *testing.T, what string, s script) api.Report {
	t.Helper()
	r, e := runOf(t, s)
	wr, we := plainRun(s)
	if e != we {
		t.Fatalf("%s: Run: error %d, want %d", what, e, we)
	}
	for i := range min(len(r.Heard), len(wr.Heard)) {
		wantSame(t, what+": line "+itoa(i)+" "+plainLine(s.Lines[i]), r.Heard[i], wr.Heard[i])
	}
	if shown(r) != shown(wr) {
		t.Errorf("%s: Run tells another report: %.1000s, want %.1000s", what, shown(r), shown(wr))
	}
	return r
}

// heardOf plays lines behind the head, and gives what came of the last one.
func heardOf(t *testing.T, lines string) heard {
	t.Helper()
	r := holdRun(t, lines, wantParsed(t, head+lines))
	return r.Heard[len(r.Heard)-1]
}

// wantHeard asks for what came of the last one of some lines.
func wantHeard(t *testing.T, lines string, wanted heard) {
	t.Helper()
	wantSame(t, lines, heardOf(t, lines), wanted)
}

// asked is what came of an asking that went well: nothing is heard of it.
var asked = heard{}

// notAsked is what came of one that may not be.
var notAsked = heard{Err: api.ErrAsk}

// P18.3: the errors ahead of all playing, and their order.
func TestRunRefuses(t *testing.T) {
	good := func() script { return behindHead() }
	turned := func(turn func(*script)) script {
		s := good()
		turn(&s)
		return s
	}
	ran(t, good())
	long := make([]line, api.MaxScriptLines+1)
	want(t, "MaxScriptLines", len(ran(t, turned(func(s *script) { s.Lines = long[:api.MaxScriptLines] })).Heard), api.MaxScriptLines)
	wantNotRun(t, "one more", turned(func(s *script) { s.Lines = long }), api.ErrScript)
	wantNotRun(t, "one more, and no disk", turned(func(s *script) { s.Lines, s.Sectors = long, 0 }), api.ErrScript)
	wantNotRun(t, "one more, and a wrong configuration", turned(func(s *script) { s.Lines, s.Config.Lines = long, 0 }), api.ErrScript)

	for n, e := range map[int]api.Errno{math.MinInt: api.ErrSectors, -1: api.ErrSectors, 0: api.ErrSectors, 1: api.ErrSmall, 42: api.ErrSmall, 50: api.ErrSmall, 51: api.OK, 65536: api.OK, 65537: api.ErrSectors, math.MaxInt: api.ErrSectors} {
		s := turned(func(s *script) { s.Sectors = n })
		if _, got := runOf(t, s); got != e {
			t.Errorf("%d sectors: error %d, want %d", n, got, e)
		}
	}
	other := func(turn func(*api.Export)) func(*script) {
		return func(s *script) { turn(&s.Label.Exports[0]) }
	}
	for what, turn := range map[string]func(*script){
		"no name":             other(func(x *api.Export) { x.Name = "" }),
		"a name that is none": other(func(x *api.Export) { x.Name = "\xff" }),
		"a long name":         other(func(x *api.Export) { x.Name = strings.Repeat("x", 257) }),
		"no sectors":          other(func(x *api.Export) { x.Sectors = 0 }),
		"fewer than none":     other(func(x *api.Export) { x.Sectors = -1 }),
		"Min that is none":    other(func(x *api.Export) { x.Min = 3 }),
		"two of one name":     func(s *script) { s.Label.Exports = append(s.Label.Exports, s.Label.Exports[0]) },
		"no exports":          func(s *script) { s.Label.Exports = nil },
		"17 exports":          func(s *script) { s.Label.Exports = make([]api.Export, 17) },
	} {
		s := turned(turn)
		_, e := server.Format(s.Sectors, s.Label)
		want(t, what+": Format refuses it", e != api.OK, true)
		wantNotRun(t, what, s, e)
		s.Config.Lines = 0
		wantNotRun(t, what+", and a wrong configuration", s, e)
	}
	for what, turn := range map[string]func(*api.Config){
		"no lines":          func(c *api.Config) { c.Lines = 0 },
		"many lines":        func(c *api.Config) { c.Lines = api.MaxLines + 1 },
		"fewer than none":   func(c *api.Config) { c.Lines = -1 },
		"no connections":    func(c *api.Config) { c.Conns = 0 },
		"many connections":  func(c *api.Config) { c.Conns = api.MaxConns + 1 },
		"a small payload":   func(c *api.Config) { c.Limits.Payload = api.MinPayload - 1 },
		"a great payload":   func(c *api.Config) { c.Limits.Payload = api.MaxPayload + 1 },
		"a small option":    func(c *api.Config) { c.Limits.Option = api.MinOption - 1 },
		"a great option":    func(c *api.Config) { c.Limits.Option = api.MaxOption + 1 },
		"no flight":         func(c *api.Config) { c.Limits.Flight = 0 },
		"a long flight":     func(c *api.Config) { c.Limits.Flight = api.MaxFlight + 1 },
		"a zero one at all": func(c *api.Config) { *c = api.Config{} },
	} {
		wantNotRun(t, what, turned(func(s *script) { turn(&s.Config) }), api.ErrConfig)
	}
}

// P18.3: what stands at the end.
func TestEnd(t *testing.T) {
	two := "disk 90\nexport \"a\" 8 1 512 0 \"\"\nexport \"b\" 2 1 512 8 \"\"\nconfig 4 2 1024 64 2\n"
	begin := "client 0 open\nclient 0 flags 3\nclient 0 go \"b\"\nmove 0\nclient 0 request 1 0 3 2 \"xy\"\nmove 0\n"
	r := ran(t, wantParsed(t, two))
	want(t, "up", r.Up, true)
	want(t, "exports", len(r.Exports), 2)
	want(t, "the first one's bytes", string(r.Exports[0]), string(make([]byte, 4096)))
	want(t, "the second one's bytes", string(r.Exports[1]), string(make([]byte, 1024)))
	want(t, "the queue", r.Queue, 0)

	r = ran(t, wantParsed(t, two+begin))
	want(t, "the first one's bytes, behind a write to the second", string(r.Exports[0]), string(make([]byte, 4096)))
	want(t, "the second one's bytes, behind a write", string(r.Exports[1]), "\x00\x00\x00xy"+string(make([]byte, 1019)))

	r = ran(t, wantParsed(t, two+begin+"write\n"))
	want(t, "the queue, behind a write back", r.Queue, 1)
	r = ran(t, wantParsed(t, two+begin+"write\ncrash -\n"))
	want(t, "up, behind a crash", r.Up, false)
	want(t, "exports, behind a crash", len(r.Exports), 0)
	want(t, "the queue, behind a crash", r.Queue, 0)
	r = ran(t, wantParsed(t, two+begin+"write\ncrash -\nstart\n"))
	want(t, "up, behind a start", r.Up, true)
	want(t, "the second one's bytes, behind a crash", string(r.Exports[1]), string(make([]byte, 1024)))
}

// P18.3: steps of the script, each kept with its answer, also one that is refused.
func TestSteps(t *testing.T) {
	greeting := []byte("NBDMAGICIHAVEOPT\x00\x03")
	for _, x := range []struct {
		lines string
		step  step
		a     answer
	}{
		{"open", step{Kind: api.SOpen}, answer{Out: greeting}},
		{"open\nopen", step{Kind: api.SOpen}, answer{Conn: 1, Out: greeting}},
		{"open\nopen\nopen", step{Kind: api.SOpen}, answer{Err: api.ErrConns}},
		{"open\nfeed 0 \"\\x00\\x00\\x00\"", step{Kind: api.SFeed, Data: make([]byte, 3)}, answer{N: 3}},
		{"open\nfeed 1 \"abc\"", step{Kind: api.SFeed, Conn: 1, Data: []byte("abc")}, answer{Err: api.ErrConn}},
		{"open\ntake 0", step{Kind: api.STake}, answer{}},
		{"open\nfeed 0 \"\\x00\\x00\\x00\\x03\"\ntake 0", step{Kind: api.STake}, answer{Took: api.Took{Kind: api.TookFlags}}},
		{"open\nfeed 0 \"\\x00\\x00\\x00\\x08\"\ntake 0", step{Kind: api.STake}, answer{Took: api.Took{Kind: api.TookEnd}}},
		{"take 7", step{Kind: api.STake, Conn: 7}, answer{Err: api.ErrConn}},
		{"open\nrun 0 0", step{Kind: api.SRun}, answer{Err: api.ErrStep}},
		{"open\nsend 0 3", step{Kind: api.SSend, N: 3}, answer{Err: api.ErrStep}},
		{"open\ncut 0", step{Kind: api.SShut}, answer{}},
		{"open\ncut 0\ncut 0", step{Kind: api.SShut}, answer{Err: api.ErrConn}},
		{"write", step{Kind: api.SWrite}, answer{N: -1}},
		{"fault read any 0 1", step{Kind: api.SFault, Fault: api.Fault{Kind: api.FaultRead, Sector: -1, Times: 1}}, answer{}},
		{"fault read 60 0 1", step{Kind: api.SFault, Fault: api.Fault{Kind: api.FaultRead, Sector: 60, Times: 1}}, answer{Err: api.ErrFault}},
		{"crash 011", step{Kind: api.SCrash, Keep: []bool{false, true, true}}, answer{}},
		{"crash -\ncrash -", step{Kind: api.SCrash}, answer{Err: api.ErrDown}},
		{"crash -\nopen", step{Kind: api.SOpen}, answer{Err: api.ErrDown}},
		{"crash -\nstart", step{Kind: api.SStart}, answer{}},
		{"start", step{Kind: api.SStart}, answer{Err: api.ErrUp}},
		{"clear 0", step{Kind: api.SClear}, answer{Err: api.ErrStep}},
	} {
		wantHeard(t, x.lines+"\n", heard{Steps: []step{x.step}, Answers: []answer{x.a}})
	}
}

// P18.3: steps that no text says: other kinds, and fields that their kinds do not name, are made as they stand, and kept.
func TestStepsOfNoText(t *testing.T) {
	for _, x := range []step{
		{},
		{Kind: 12},
		{Kind: -1, Conn: -2, N: -3, Data: []byte("x"), Keep: []bool{true}},
		{Kind: api.SOpen, Conn: 9, N: 8, Data: []byte("abc"), Keep: []bool{true}, Fault: api.Fault{Kind: 7}},
		{Kind: api.STake, Conn: -1, Data: []byte("abc")},
		{Kind: api.SRun, Conn: math.MaxInt, N: math.MinInt},
		{Kind: api.SWrite, Conn: 3, Keep: []bool{false, true}},
	} {
		r := holdRun(t, shown(x), behindHead(stepLine(x)))
		if len(r.Heard[0].Steps) != 1 || shown(r.Heard[0].Steps[0]) != shown(x) || len(r.Heard[0].Answers) != 1 {
			t.Errorf("%s: %s", shown(x), shown(r.Heard[0]))
		}
	}
	// A line's other fields are not looked at either.
	r := holdRun(t, "a step with more", behindHead(line{Kind: api.LineStep, Who: 99, N: -1, Step: step{Kind: api.SOpen}, Ask: ask{Kind: api.AskClose}}))
	want(t, "a step with more", len(r.Heard[0].Answers), 1)
	r = holdRun(t, "a move with more", behindHead(asks(0, ask{Kind: api.AskOpen}), line{Kind: api.LineMove, N: -1, Step: step{Kind: api.SCrash}, Ask: ask{Kind: api.AskClose}}))
	want(t, "a move with more", len(r.Heard[1].Answers), 0)
	want(t, "a move with more", r.Heard[1].Err, api.OK)
}

// P18.3: lines of another kind, and askings of another kind, do nothing, whoever is there.
func TestOtherKinds(t *testing.T) {
	for _, who := range []int{0, 1, -1, 16} {
		for _, n := range []int{math.MinInt, -1, 0, 5, 99, math.MaxInt} {
			r := holdRun(t, "a line of kind "+itoa(n), behindHead(asks(0, ask{Kind: api.AskOpen}), line{Kind: api.LineKind(n), Who: who, N: -1, Step: step{Kind: api.SCrash}, Ask: ask{Kind: api.AskClose}}))
			wantSame(t, "a line of kind "+itoa(n), r.Heard[1], heard{})
			want(t, "up", r.Up, true)
		}
		for _, n := range []int{math.MinInt, -1, 0, 16, 17, 99, math.MaxInt} {
			r := holdRun(t, "an asking of kind "+itoa(n), behindHead(asks(0, ask{Kind: api.AskOpen}), asks(who, ask{Kind: api.AskKind(n)})))
			wantSame(t, "an asking of kind "+itoa(n), r.Heard[1], heard{})
		}
	}
}

// P18.3: what leaves on a connection by a step of the script is heard by the client that has it, at once; by nobody, if it has none.
func TestStepsAreHeard(t *testing.T) {
	const flags = "\"\\x00\\x00\\x00\\x03\""
	wantHears(t, "open\n", "open 0 out 4e42444d4147494349484156454f50540003")
	wantHears(t, "client 0 open\nopen\n", "open 1 out 4e42444d4147494349484156454f50540003")
	wantHears(t, "open\nclient 0 open\n", "open 1 out 4e42444d4147494349484156454f50540003", "heard greeting 3")
	// A step of kind SOpen may name a connection; the bytes that leave are the new one's all the same.
	r := holdRun(t, "SOpen with a Conn", behindHead(asks(0, ask{Kind: api.AskOpen}), stepLine(step{Kind: api.SOpen, Conn: 0})))
	wantSame(t, "SOpen with the Conn of a client", r.Heard[1].Events, []event{})
	begun := "open\nclient 3 open\nclient 3 flags 3\nclient 3 list\nsay 3 100\n"
	wantHears(t, begun+"take 1\n", "take 1 flags")
	wantHears(t, begun+"take 1\ntake 1\n",
		"take 1 option 3 out 0003e889045565a900000003000000020000000500000001610003e889045565a9000000030000000100000000",
		"heard export \"a\"", "heard ack 3")
	// Bytes that nobody has asked for.
	wantHears(t, "client 0 open\nfeed 0 "+flags+"\ntake 0\nfeed 0 \"IHAVEOPT\\x00\\x00\\x00\\x03\\x00\\x00\\x00\\x00\"\ntake 0\n",
		"take 0 option 3 out 0003e889045565a900000003000000020000000500000001610003e889045565a9000000030000000100000000",
		"heard broken")
	// Two clients: each hears its own.
	wantHears(t, "client 0 open\nclient 1 open\nclient 0 flags 3\nclient 1 flags 3\nclient 1 list\nclient 0 structured\nsay 0 100\nsay 1 100\ntake 0\ntake 1\ntake 0\n",
		"take 0 option 8 out 0003e889045565a9000000080000000100000000", "heard ack 8")
	// A client that is gone hears nothing, nor does the one that came in its place.
	gone := "client 0 open\nclient 0 flags 3\nclient 0 list\nsay 0 100\ntake 0\n"
	wantHears(t, gone+"client 0 close\ntake 0\n", "take error 154")
	wantHears(t, gone+"client 0 close\nclient 0 open\ntake 1\n", "take 1 none")
}
