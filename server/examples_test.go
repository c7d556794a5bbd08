package server_test

import (
	"bytes"
	"testing"

	"spindle/api"
	"spindle/server"
)

// ofExamples gives the server of the chapter's examples.
func ofExamples(t *testing.T) *server.Server {
	t.Helper()
	return started(t, formatted(t, 60, one()), example())
}

// plainGo is GO of "a" as the examples have it: no information is asked for.
func plainGo() []byte { return option(api.OptGo, lay(uint32(1), "a", uint16(0))...) }

// beginning does the first example's steps.
func beginning(t *testing.T, s *server.Server) int {
	t.Helper()
	c := mustStep(t, s, opens()).Conn
	mustStep(t, s, feeds(c, flagBytes(3)))
	mustStep(t, s, takes(c))
	mustStep(t, s, feeds(c, plainGo()))
	mustStep(t, s, takes(c))
	return c
}

func TestExampleOfABeginning(t *testing.T) {
	s := ofExamples(t)
	wantAnswer(t, "SOpen", s.Step(opens()), api.Answer{Conn: 0, Out: greeting()})
	wantAnswer(t, "SFeed", s.Step(feeds(0, []byte{0, 0, 0, 3})), api.Answer{N: 4})
	wantAnswer(t, "STake", s.Step(takes(0)), api.Answer{Took: api.Took{Kind: api.TookFlags}})
	wantAnswer(t, "SFeed of GO", s.Step(feeds(0, plainGo())), api.Answer{N: len(plainGo())})
	told := lay(replyBytes(7, 3, lay(uint16(0), uint64(4096), uint16(0xd6d))...), replyBytes(7, 1))
	want(t, "bytes of both answers", len(told), 32+20)
	wantAnswer(t, "STake of GO", s.Step(takes(0)), api.Answer{Took: api.Took{Kind: api.TookOption, Code: 7}, Out: told})
}

func TestExampleOfAWrite(t *testing.T) {
	s := ofExamples(t)
	c := beginning(t, s)
	q := write(510, []byte("xyz"))
	mustStep(t, s, feeds(c, requestBytes(q, false)))
	wantAnswer(t, "STake", s.Step(takes(c)), api.Answer{Took: api.Took{Kind: api.TookRequest, Task: api.Task{ID: 1, Req: q}}})
	wantAnswer(t, "SRun", s.Step(runs(0, 0)), api.Answer{N: 1})
	wantAnswer(t, "SRun again", s.Step(runs(0, 0)), api.Answer{Err: api.ErrStep})
	wantAnswer(t, "SSend", s.Step(sends(0, 0)), api.Answer{N: 1, Out: simpleBytes(0, q.Cookie)})
	wanted := make([]byte, 4096)
	copy(wanted[510:], "xyz")
	wantBytes(t, "Peek", peeked(t, s, 0), wanted)
	wantSame(t, "sectors 0 and 1 are laid out", well(t, s, begun(t, s, form{structured: true}, "a"), read(0, 1024)).parts, []part{{0, 1024, false}})
}

func TestExampleOfACrash(t *testing.T) {
	for name, flushed := range map[string]func(s *server.Server, c int){
		"nothing": func(s *server.Server, c int) { well(t, s, c, write(510, []byte("xyz"))) },
		"a flush": func(s *server.Server, c int) { well(t, s, c, write(510, []byte("xyz"))); well(t, s, c, flush()) },
		"FlagFua": func(s *server.Server, c int) { well(t, s, c, write(510, []byte("xyz"), api.FlagFua)) },
	} {
		s := ofExamples(t)
		flushed(s, beginning(t, s))
		wantAnswer(t, name+": SCrash", s.Step(falls()), api.Answer{})
		wantAnswer(t, name+": SStart", s.Step(rises()), api.Answer{})
		wanted := make([]byte, 4096)
		if name != "nothing" {
			copy(wanted[510:], "xyz")
		}
		wantBytes(t, name+": Peek", peeked(t, s, 0), wanted)
	}
}

func TestExampleOfAFault(t *testing.T) {
	s := ofExamples(t)
	c := beginning(t, s)
	wantAnswer(t, "SFault", s.Step(api.Step{Kind: api.SFault, Fault: api.Fault{Kind: api.FaultRead, Sector: -1, After: 0, Times: 1}}), api.Answer{})
	asked(t, s, c, read(0, 512))
	wantAnswer(t, "SRun", s.Step(runs(c, 0)), api.Answer{N: 1, Code: api.EIO})
}

func TestExampleOfRefusals(t *testing.T) {
	s := ofExamples(t)
	beginning(t, s)
	mustStep(t, s, opens())
	wantRefused(t, "SOpen", s, opens(), api.ErrConns)
	wantRefused(t, "SFeed", s, feeds(7, []byte("x")), api.ErrConn)
	wantRefused(t, "SStart", s, rises(), api.ErrUp)
	mustStep(t, s, falls())
	wantRefused(t, "SOpen, down", s, opens(), api.ErrDown)
}

func TestExampleOfHoles(t *testing.T) {
	s := ofExamples(t)
	c := beginning(t, s)
	if h := well(t, s, c, read(0, 1024)); !bytes.Equal(h.data, make([]byte, 1024)) {
		t.Error("holes are not zeros")
	}
	wantSame(t, "lines", s.Look().Lines, []api.Line{{Sector: 42, Note: true}})
}
