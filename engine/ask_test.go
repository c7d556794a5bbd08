package engine_test

import (
	"math"
	"testing"

	"spindle/api"
	"spindle/client"
)

// everyAsking is an asking of each kind but AskOpen.
var everyAsking = []ask{
	{Kind: api.AskFlags, Flags: 3},
	{Kind: api.AskList},
	{Kind: api.AskInfo, Name: "a", Infos: []uint16{1, 3}},
	{Kind: api.AskGo, Name: "a", Infos: []uint16{2}},
	{Kind: api.AskExport, Name: "a"},
	{Kind: api.AskAbort},
	{Kind: api.AskStructured},
	{Kind: api.AskListMeta, Name: "a", Queries: []string{"base:"}},
	{Kind: api.AskSetMeta, Name: "a", Queries: []string{"base:allocation", "x:y"}},
	{Kind: api.AskOption, Code: 99, Data: []byte("data")},
	{Kind: api.AskRequest, Req: api.Request{Type: 1, Flags: 1, Offset: 5, Length: 2, Data: []byte("xy")}},
	{Kind: api.AskDisc},
	{Kind: api.AskClose},
	{Kind: api.AskExtended},
}

// P18.3: every asking of a client that is not there, by numbers within and without the bounds.
func TestAskingsOfNobody(t *testing.T) {
	want(t, "askings", len(everyAsking), 14)
	for _, who := range []int{math.MinInt, -1, 0, 1, 15, 16, 17, math.MaxInt32, math.MaxInt} {
		for _, a := range everyAsking {
			what := "asking " + itoa(int(a.Kind)) + " of " + itoa(who)
			r := holdRun(t, what, behindHead(asks(2, ask{Kind: api.AskOpen}), asks(who, a)))
			wantSame(t, what, r.Heard[1], notAsked)
		}
		for _, l := range []line{{Kind: api.LineSay, Who: who, N: 3}, {Kind: api.LineMove, Who: who}} {
			r := holdRun(t, "nobody", behindHead(asks(2, ask{Kind: api.AskOpen}), l))
			wantSame(t, shown(l), r.Heard[1], notAsked)
		}
	}
}

// P18.3: a client of each number, and of those beyond.
func TestOpen(t *testing.T) {
	greeted := func(conn int) heard {
		return heard{Steps: []step{{Kind: api.SOpen}}, Answers: []answer{{Conn: conn, Out: []byte("NBDMAGICIHAVEOPT\x00\x03")}}, Events: []event{{Kind: api.EvGreeting, Flags: 3}}}
	}
	for _, who := range []int{math.MinInt, -1, 0, 1, 7, 14, 15, 16, 17, math.MaxInt32, math.MaxInt} {
		r := holdRun(t, "open "+itoa(who), behindHead(asks(who, ask{Kind: api.AskOpen})))
		if who >= 0 && who < api.MaxClients {
			wantSame(t, "open "+itoa(who), r.Heard[0], greeted(0))
		} else {
			wantSame(t, "open "+itoa(who), r.Heard[0], notAsked)
		}
	}
	// All of them at one time.
	s := behindHead()
	s.Config.Conns = 16
	for who := range 16 {
		s.Lines = append(s.Lines, asks(15-who, ask{Kind: api.AskOpen}))
	}
	for n, h := range holdRun(t, "sixteen", s).Heard {
		wantSame(t, "client "+itoa(15-n), h, greeted(n))
	}

	wantHeard(t, "client 0 open\nclient 0 open\n", notAsked)
	wantHeard(t, "client 0 open\nclient 1 open\n", greeted(1))
	wantHeard(t, "client 0 open\nclient 0 close\nclient 0 open\n", greeted(1))
	wantHeard(t, "client 0 open\ncut 0\nclient 0 open\n", notAsked)
	wantHeard(t, "client 0 open\ncut 0\nclient 0 close\nclient 0 open\n", greeted(1))
	wantHeard(t, "open\nopen\ncut 0\nclient 0 open\n", greeted(2))

	// A connection that does not come brings no client.
	refused := func(e api.Errno) heard {
		return heard{Steps: []step{{Kind: api.SOpen}}, Answers: []answer{{Err: e}}}
	}
	wantHeard(t, "open\nopen\nclient 0 open\n", refused(api.ErrConns))
	wantHeard(t, "open\nopen\nclient 0 open\nclient 0 list\n", notAsked)
	wantHeard(t, "open\nopen\nclient 0 open\nclient 0 close\n", notAsked)
	wantHeard(t, "open\nopen\nclient 0 open\ncut 1\nclient 0 open\n", greeted(2))
	wantHeard(t, "crash -\nclient 0 open\n", refused(api.ErrDown))
	wantHeard(t, "crash -\nclient 0 open\nstart\nclient 0 open\n", greeted(0))
	wantHeard(t, "client 0 open\ncrash -\nstart\nclient 0 open\n", notAsked)
	wantHeard(t, "client 0 open\ncrash -\nclient 0 close\nstart\nclient 0 open\n", greeted(1))
}

// P18.3: what a client is, closed and opened again: a new one, in all.
func TestClose(t *testing.T) {
	shut := func(conn int, e api.Errno) heard {
		return heard{Steps: []step{{Kind: api.SShut, Conn: conn}}, Answers: []answer{{Err: e}}}
	}
	wantHeard(t, "client 0 open\nclient 0 close\n", shut(0, api.OK))
	wantHeard(t, "open\nclient 5 open\nclient 5 close\n", shut(1, api.OK))
	wantHeard(t, "client 0 open\ncut 0\nclient 0 close\n", shut(0, api.ErrConn))
	wantHeard(t, "client 0 open\nclient 0 close\nclient 0 close\n", notAsked)
	wantHeard(t, "client 0 open\ncrash -\nclient 0 close\n", heard{})
	wantHeard(t, "client 0 open\ncrash -\nclient 0 close\nclient 0 close\n", notAsked)
	wantHeard(t, "client 0 open\ncrash -\nstart\nclient 0 close\n", heard{})
	wantHeard(t, "client 0 open\nclient 1 open\nclient 0 close\nfeed 0 \"\"\n", heard{Steps: []step{{Kind: api.SFeed}}, Answers: []answer{{Err: api.ErrConn}}})
	wantHeard(t, "client 0 open\nclient 1 open\nclient 0 close\nclient 1 flags 3\nsay 1 4\n", heard{Steps: []step{{Kind: api.SFeed, Conn: 1, Data: []byte{0, 0, 0, 3}}}, Answers: []answer{{N: 4}}})
	// No mail, no phase, no cookies are left of the one ahead.
	wantHeard(t, "client 0 open\nclient 0 flags 3\nclient 0 close\nclient 0 open\nsay 0 9\n", heard{Steps: []step{{Kind: api.SFeed, Conn: 1}}, Answers: []answer{{}}})
	wantHeard(t, begin+"client 0 request 3 0 0 0\nclient 0 close\nclient 0 open\nclient 0 request 3 0 0 0\n", notAsked)
	wantHeard(t, begin+"client 0 request 3 0 0 0\nclient 0 close\n"+begin+"client 0 request 3 0 0 0\n", heard{Cookie: 1})
}

// said gives the mail of client 0 behind some lines: what a say of all of it feeds.
func said(t *testing.T, lines string) []byte {
	t.Helper()
	h := heardOf(t, lines+"say 0 2147483647\n")
	want(t, "steps of a say", len(h.Steps), 1)
	return h.Steps[0].Data
}

// begun is a client that has heard the greeting, and one behind the beginning of the transmission.
func begun(t *testing.T, flags uint32) *client.Client {
	t.Helper()
	c := client.New()
	c.In([]byte("NBDMAGICIHAVEOPT\x00\x03"))
	_, e := c.Flags(flags)
	wantErr(t, "flags", e, api.OK)
	return c
}

// P18.3: what each asking has a client say.
func TestMail(t *testing.T) {
	greeted := "client 0 open\nclient 0 flags 3\nsay 0 4\n"
	for _, x := range []struct {
		asking string
		calls  func(c *client.Client) ([]byte, api.Errno)
	}{
		{"list", func(c *client.Client) ([]byte, api.Errno) { return c.Option(api.OptList, nil) }},
		{"abort", func(c *client.Client) ([]byte, api.Errno) { return c.Option(api.OptAbort, nil) }},
		{"structured", func(c *client.Client) ([]byte, api.Errno) { return c.Option(api.OptStructured, nil) }},
		{"extended", func(c *client.Client) ([]byte, api.Errno) { return c.Option(api.OptExtended, nil) }},
		{`export "a\xff"`, func(c *client.Client) ([]byte, api.Errno) { return c.Option(api.OptExportName, []byte("a\xff")) }},
		{`info "a" 3 1`, func(c *client.Client) ([]byte, api.Errno) {
			return c.Info(false, api.InfoRequest{Name: "a", Infos: []uint16{3, 1}})
		}},
		{`go "b" 2`, func(c *client.Client) ([]byte, api.Errno) {
			return c.Info(true, api.InfoRequest{Name: "b", Infos: []uint16{2}})
		}},
		{`info "\xff"`, func(c *client.Client) ([]byte, api.Errno) {
			return c.Info(false, api.InfoRequest{Name: "\xff"})
		}},
		{`list-meta "a" "x" "y"`, func(c *client.Client) ([]byte, api.Errno) {
			return c.Meta(false, api.MetaRequest{Name: "a", Queries: []string{"x", "y"}})
		}},
		{`set-meta "a" "base:allocation"`, func(c *client.Client) ([]byte, api.Errno) {
			return c.Meta(true, api.MetaRequest{Name: "a", Queries: []string{"base:allocation"}})
		}},
		{`set-meta "\xff" "x"`, func(c *client.Client) ([]byte, api.Errno) {
			return c.Meta(true, api.MetaRequest{Name: "\xff", Queries: []string{"x"}})
		}},
		{`option 77 "data"`, func(c *client.Client) ([]byte, api.Errno) { return c.Option(77, []byte("data")) }},
		{"flags 3", func(c *client.Client) ([]byte, api.Errno) { return c.Flags(3) }},
		{"request 0 0 0 1", func(c *client.Client) ([]byte, api.Errno) {
			b, _, e := c.Request(api.Request{Length: 1})
			return b, e
		}},
		{"disc", func(c *client.Client) ([]byte, api.Errno) {
			b, _, e := c.Request(api.Request{Type: api.CmdDisc})
			return b, e
		}},
	} {
		b, e := x.calls(begun(t, 3))
		wantHeard(t, greeted+"client 0 "+x.asking+"\n", heard{Err: e})
		want(t, x.asking+": the mail", string(said(t, greeted+"client 0 "+x.asking+"\n")), string(b))
	}
	for flags, e := range map[string]api.Errno{"0": api.OK, "1": api.OK, "2": api.OK, "3": api.OK, "4": api.ErrFlags, "4294967295": api.ErrFlags} {
		wantHeard(t, "client 0 open\nclient 0 flags "+flags+"\n", heard{Err: e})
	}
	want(t, "flags", string(said(t, "client 0 open\nclient 0 flags 2\n")), "\x00\x00\x00\x02")
	want(t, "flags that may not be", string(said(t, "client 0 open\nclient 0 flags 4\n")), "")
	wantHeard(t, "client 0 open\nclient 0 list\n", notAsked)
	wantHeard(t, "client 0 open\nclient 0 flags 3\nclient 0 list\nclient 0 list\n", notAsked)
	wantHeard(t, "client 0 open\nclient 0 flags 3\nclient 0 list\nmove 0\nclient 0 list\n", asked)
	wantHeard(t, "client 0 open\nclient 0 flags 2\nclient 0 list\n", notAsked)
	wantHeard(t, "client 0 open\nclient 0 flags 2\nclient 0 export \"a\"\n", asked)
	// One thing that is said stands behind the other.
	want(t, "flags and an option", string(said(t, "client 0 open\nclient 0 flags 3\nclient 0 list\n")), "\x00\x00\x00\x03IHAVEOPT\x00\x00\x00\x03\x00\x00\x00\x00")
	want(t, "an asking that is refused adds nothing", string(said(t, "client 0 open\nclient 0 flags 3\nclient 0 list\nclient 0 list\nclient 0 flags 3\n")), "\x00\x00\x00\x03IHAVEOPT\x00\x00\x00\x03\x00\x00\x00\x00")
}

// P18.3: requests, their cookies, and what they have a client say.
func TestRequests(t *testing.T) {
	const head = "\x25\x60\x95\x13"
	wantHeard(t, begin+"client 0 request 0 4 512 1024\n", heard{Cookie: 1})
	wantHeard(t, begin+"client 0 request 0 4 512 1024\nclient 0 request 3 0 0 0\n", heard{Cookie: 2})
	wantHeard(t, begin+"client 0 request 0 4 512 1024\nclient 0 disc\n", heard{Cookie: 2})
	wantHeard(t, begin+"client 0 disc\nclient 0 request 3 0 0 0\n", notAsked)
	wantHeard(t, begin+"client 0 disc\nclient 0 disc\n", notAsked)
	wantHeard(t, begin+"client 0 list\n", notAsked)
	wantHeard(t, begin+"client 0 flags 3\n", notAsked)
	wantHeard(t, begin+"client 0 request 0 0 0 1048577\n", heard{Err: api.ErrLong})
	wantHeard(t, begin+"client 0 request 1 0 0 3 \"xy\"\n", heard{Err: api.ErrForm})
	wantHeard(t, begin+"client 0 request 1 0 0 3 \"xy\"\nclient 0 request 3 0 0 0\n", heard{Cookie: 1})
	want(t, "a read", string(said(t, begin+"client 0 request 0 4 512 1024\n")), head+"\x00\x04\x00\x00\x00\x00\x00\x00\x00\x00\x00\x01\x00\x00\x00\x00\x00\x00\x02\x00\x00\x00\x04\x00")
	want(t, "a write and disc", string(said(t, begin+"client 0 request 1 1 5 2 \"xy\"\nclient 0 disc\n")),
		head+"\x00\x01\x00\x01\x00\x00\x00\x00\x00\x00\x00\x01\x00\x00\x00\x00\x00\x00\x00\x05\x00\x00\x00\x02xy"+
			head+"\x00\x00\x00\x02\x00\x00\x00\x00\x00\x00\x00\x02\x00\x00\x00\x00\x00\x00\x00\x00\x00\x00\x00\x00")
	// A request's own cookie, which no text says, is not looked at.
	s := wantParsed(t, "disk 60\nexport \"a\" 8 1 512 0 \"\"\nconfig 4 2 1024 64 2\n"+begin)
	s.Lines = append(s.Lines, asks(0, ask{Kind: api.AskRequest, Req: api.Request{Type: 3, Cookie: 77}}))
	r := holdRun(t, "a cookie of its own", s)
	want(t, "the cookie", r.Heard[len(r.Heard)-1].Cookie, 1)
	// Fields of an asking that its kind does not name are not looked at.
	s.Lines[len(s.Lines)-1] = asks(0, ask{Kind: api.AskDisc, Flags: 9, Name: "x", Infos: []uint16{1}, Queries: []string{"q"}, Code: 8, Data: []byte("d"), Req: api.Request{Type: 1, Flags: 1, Offset: 3, Length: 4, Data: []byte("abcd")}})
	s.Lines = append(s.Lines, line{Kind: api.LineSay, N: 100})
	r = holdRun(t, "a disc with more", s)
	want(t, "a disc with more", string(r.Heard[len(r.Heard)-1].Steps[0].Data), head+"\x00\x00\x00\x02\x00\x00\x00\x00\x00\x00\x00\x01\x00\x00\x00\x00\x00\x00\x00\x00\x00\x00\x00\x00")
}

// P18.3: a client that is there and has no connection any more is asked as before; what it says it can't say.
func TestAskedWithoutConnection(t *testing.T) {
	down := begin + "crash -\n"
	wantHeard(t, down+"client 0 request 3 0 0 0\n", heard{Cookie: 1})
	wantHeard(t, down+"start\nclient 0 request 3 0 0 0\n", heard{Cookie: 1})
	wantHeard(t, down+"say 0 1\n", notAsked)
	wantHeard(t, down+"say 0 0\n", notAsked)
	wantHeard(t, down+"move 0\n", notAsked)
	wantHeard(t, down+"start\nclient 0 request 3 0 0 0\nsay 0 9\n", notAsked)
	wantHeard(t, down+"start\nclient 0 request 3 0 0 0\nmove 0\n", notAsked)
	wantHeard(t, down+"client 0 open\n", notAsked)
	// One that was cut has its connection still: the server tells that it is none.
	cut := begin + "cut 0\n"
	wantHeard(t, cut+"client 0 request 3 0 0 0\n", heard{Cookie: 1})
	wantHeard(t, cut+"say 0 0\n", heard{Steps: []step{{Kind: api.SFeed}}, Answers: []answer{{Err: api.ErrConn}}})
	wantHeard(t, cut+"move 0\n", heard{Steps: []step{{Kind: api.STake}}, Answers: []answer{{Err: api.ErrConn}}})
	// A crash takes all clients' connections, whatever they are, and a new one is another.
	wantHeard(t, "client 3 open\nclient 1 open\ncrash 11\nstart\nmove 3\n", notAsked)
	wantHeard(t, "client 3 open\nclient 1 open\ncrash 11\nstart\nmove 1\n", notAsked)
	wantHeard(t, "client 3 open\ncrash -\nstart\nclient 1 open\nmove 3\n", notAsked)
	wantHeard(t, "client 3 open\ncrash -\nstart\nclient 1 open\nmove 1\n", heard{})
	wantHeard(t, "client 3 open\ncrash -\nstart\nclient 3 close\nclient 3 open\nclient 3 flags 0\nmove 3\n", heard{
		Steps:   []step{{Kind: api.SFeed, Conn: 1, Data: make([]byte, 4)}, {Kind: api.STake, Conn: 1}},
		Answers: []answer{{N: 4}, {Took: api.Took{Kind: api.TookFlags}}},
	})
}
