package conn_test

import (
	"fmt"
	"testing"

	"spindle/api"
)

// rights are requests that the rules take, of the first of several in a session.
func rights(s api.Session) []api.Request {
	w := write(2, 510, []byte("xyz"))
	if s.Extended {
		w.Flags = api.FlagPayload
	}
	long := write(3, 0, many(1000))
	long.Flags = w.Flags | api.FlagFua
	out := []api.Request{
		read(1, 0, 512), w, long, {Type: api.CmdFlush, Cookie: 4}, {Type: api.CmdTrim, Cookie: 5, Offset: 512, Length: 4096}, {Type: api.CmdCache, Cookie: max64, Length: 8192},
		{Type: api.CmdZeroes, Flags: api.FlagFast, Offset: 1024, Length: 512}, {Type: api.CmdZeroes, Flags: api.FlagNoHole, Cookie: 8, Offset: 7, Length: 1},
	}
	if s.Structured {
		out = append(out, api.Request{Flags: api.FlagDF, Cookie: 9, Offset: 8191, Length: 1})
	}
	if len(s.Contexts) > 0 {
		out = append(out, api.Request{Type: api.CmdStatus, Cookie: 10, Length: 8192}, api.Request{Type: api.CmdStatus, Flags: api.FlagOne, Cookie: 11, Length: 1})
	}
	return out
}

// wrongs are requests that the rules refuse, of the first of several in whatever session, and the errors.
func wrongs(s api.Session) ([]api.Request, []uint32) {
	var payload, none uint16 = 0, api.FlagPayload
	if s.Extended {
		payload, none = none, payload
	}
	list := []api.Request{
		read(21, 0, 0), read(22, 8192, 1), read(23, 8191, 2), read(24, max64, 512), read(25, 0, 1025), {Type: 8, Cookie: 26}, {Type: max16, Cookie: 27, Length: 512}, {Type: api.CmdFlush, Cookie: 28, Length: 1},
		{Type: api.CmdWrite, Flags: payload, Cookie: 29, Offset: 8191, Length: 2, Data: []byte("no")}, {Type: api.CmdWrite, Flags: payload, Cookie: 30}, {Type: api.CmdTrim, Cookie: 31, Offset: 8192, Length: 512},
		{Type: api.CmdZeroes, Cookie: 32, Offset: 4096, Length: 8192}, {Type: api.CmdZeroes, Flags: api.FlagFast, Cookie: 33, Offset: 1, Length: 512}, {Type: api.CmdRead, Flags: 64, Cookie: 34, Length: 1},
	}
	codes := []uint32{22, 22, 22, 22, 22, 22, 22, 22, 28, 22, 22, 28, 95, 22}
	if s.Extended {
		list = append(list, api.Request{Type: api.CmdWrite, Cookie: 35, Length: 512}, api.Request{Type: api.CmdTrim, Flags: api.FlagPayload, Cookie: 36, Length: 4, Data: []byte("four")}, read(37, 0, 1<<40))
		codes = append(codes, 22, 22, 22)
	} else {
		list, codes = append(list, api.Request{Type: api.CmdWrite, Flags: none, Cookie: 38, Length: 4, Data: []byte("four")}), append(codes, 22)
	}
	if !s.Structured {
		list, codes = append(list, api.Request{Flags: api.FlagDF, Cookie: 39, Length: 512}), append(codes, 22)
	}
	if len(s.Contexts) == 0 {
		list, codes = append(list, api.Request{Type: api.CmdStatus, Cookie: 40, Length: 512}), append(codes, 22)
	}
	return list, codes
}

// refusalBytes are the answer to a request that is refused.
func refusalBytes(s api.Session, q api.Request, code uint32) []byte {
	body := lay(code, uint16(0))
	switch {
	case s.Extended:
		return lay(uint32(0x6e8a278c), uint16(1), uint16(32769), q.Cookie, q.Offset, uint64(len(body)), body)
	case s.Structured && (q.Type == api.CmdRead || q.Type == api.CmdStatus):
		return lay(uint32(0x668e33ef), uint16(1), uint16(32769), q.Cookie, uint32(len(body)), body)
	}
	return simpleBytes(code, q.Cookie)
}

// P14.3: of no byte and of every part of a request nothing is taken; of the whole just it, which is a pending task, with nothing said.
func TestRequestsByParts(t *testing.T) {
	for _, f := range forms() {
		s := working(t, several(), wide(2), f, "first").Session()
		for i, q := range rights(s) {
			b := requestBytes(q, s.Extended)
			for n := range b {
				if n > 40 && n < len(b)-10 {
					continue
				}
				what := fmt.Sprintf("%s: request %d, %d of its bytes", f.name, i, n)
				c := working(t, several(), wide(1), f, "first")
				give(t, c, b[:n])
				wantVain(t, what, c)
				give(t, c, lay(b[n:], "beh"))
				wantTook(t, what, c.Take(), api.Took{Kind: api.TookRequest, Task: api.Task{ID: 1, Req: q}})
				wantLook(t, what, c, api.ConnLook{Phase: api.PhaseWork, Session: s, Inbox: 3, Pending: []int{1}, Next: 2})
				wantTask(t, what, c, 1, q)
			}
		}
	}
}

// P14.3: the requests that the rules refuse are ready at once, with the error, in the form of the session; nothing leaves by itself.
func TestRefused(t *testing.T) {
	for _, f := range forms() {
		c := working(t, several(), wide(64), f, "first")
		s := c.Session()
		list, codes := wrongs(s)
		for i, q := range list {
			what := fmt.Sprintf("%s: request %d", f.name, i)
			id := i + 1
			wantTook(t, what, request(t, c, q), api.Took{Kind: api.TookRequest, Task: api.Task{ID: id, Req: q}, Refused: true})
			wantLook(t, what, c, api.ConnLook{Phase: api.PhaseWork, Session: s, Ready: []int{id}, Next: id + 1})
			wantNoTask(t, what, c, id)
			want(t, what+": Finish", c.Finish(id, api.Outcome{Code: 5}), api.ErrTask)
			want(t, what+": Send", c.Send(id), api.OK)
			wantBytes(t, what, c.Out(), refusalBytes(s, q, codes[i]))
		}
	}
}

// P14.3: the rules are asked of the session's export, not of another.
func TestRefusedByExport(t *testing.T) {
	for _, f := range forms() {
		for _, name := range []string{"first", "second", "für sich"} {
			c := working(t, several(), wide(8), f, name)
			s := c.Session()
			w := write(1, 511, []byte("x"))
			if s.Extended {
				w.Flags = api.FlagPayload
			}
			want(t, name+": a write", request(t, c, w).Refused, name == "second")
			want(t, name+": a part of a sector", request(t, c, read(2, 1, 1)).Refused, name == "second")
			want(t, name+": at 4096", request(t, c, read(3, 4096, 512)).Refused, name == "second")
			want(t, name+": at 8192", request(t, c, read(4, 8192, 512)).Refused, name != "für sich")
			want(t, name+": at 0", request(t, c, read(5, 0, 512)).Refused, false)
			if name == "second" {
				c.Send(1)
				wantBytes(t, name, c.Out(), refusalBytes(s, w, api.EPerm))
			}
		}
	}
}

// P14.3: a request with another magic, in whichever of its bytes, ends the connection as soon as its head is there; the tasks are gone, what is in the outbox leaves.
func TestRequestWithAnotherMagic(t *testing.T) {
	for _, f := range forms() {
		head := 28
		if f.extended {
			head = 32
		}
		for i := range 4 {
			for _, n := range []int{head, head + 1, head + 40} {
				what := fmt.Sprintf("%s: byte %d is another, %d are there", f.name, i, n)
				c := working(t, several(), wide(8), f, "first")
				s := c.Session()
				request(t, c, read(1, 0, 512))
				request(t, c, read(2, 0, 512))
				request(t, c, read(3, 8192, 512))
				request(t, c, read(4, 8192, 512))
				c.Finish(2, api.Outcome{Code: 5})
				c.Send(3)
				row := lay(requestBytes(read(7, 0, 512), f.extended), many(100))
				row[i] ^= 0x80
				give(t, c, row[:head-1])
				wantVain(t, what, c)
				give(t, c, row[head-1:n])
				wantEnd(t, what, c, api.Took{Kind: api.TookEnd}, refusalBytes(s, read(3, 8192, 512), 22))
			}
		}
		c := working(t, several(), wide(8), f, "first")
		give(t, c, lay(requestBytes(read(7, 0, 512), !f.extended), make([]byte, 4)))
		wantEnd(t, f.name+": the other kind of head", c, api.Took{Kind: api.TookEnd}, nil)
		c = working(t, several(), wide(8), f, "first")
		give(t, c, lay(option(api.OptAbort), make([]byte, 20)))
		wantEnd(t, f.name+": an option in the transmission", c, api.Took{Kind: api.TookEnd}, nil)
	}
}

// P14.3: a payload above the limit ends the connection as soon as the head is there; one of just the limit does not.
func TestPayloadTooLong(t *testing.T) {
	for _, f := range forms() {
		for _, length := range []uint64{1023, 1024, 1025, 1 << 20, 1 << 31, max32} {
			for _, command := range []uint16{api.CmdWrite, api.CmdRead, api.CmdTrim, api.CmdDisc, 99} {
				for _, flags := range []uint16{0, api.FlagPayload} {
					what := fmt.Sprintf("%s: command %d of %d bytes, flags %d", f.name, command, length, flags)
					c := working(t, several(), wide(2), f, "first")
					request(t, c, read(1, 0, 512))
					q := api.Request{Type: command, Flags: flags, Length: length}
					carries := !f.extended && command == api.CmdWrite || f.extended && flags > 0
					give(t, c, requestBytes(q, f.extended))
					switch {
					case carries && length > 1024:
						wantEnd(t, what, c, api.Took{Kind: api.TookEnd}, nil)
					case carries:
						wantVain(t, what, c)
						inPhase(t, what, c, api.PhaseWork)
					case command == api.CmdDisc:
						wantTook(t, what, c.Take(), api.Took{Kind: api.TookEnd})
						inPhase(t, what, c, api.PhaseDrain)
					default:
						want(t, what, c.Take().Kind, api.TookRequest)
					}
				}
			}
		}
	}
	c := working(t, several(), wide(2), form{extended: true}, "first")
	give(t, c, requestBytes(api.Request{Type: api.CmdWrite, Flags: api.FlagPayload, Length: 1<<32 + 512}, true))
	wantEnd(t, "a length of more than 32 bits", c, api.Took{Kind: api.TookEnd}, nil)
}

// P14.3, P14.12: a full table takes nothing, whatever stands in the inbox: a request, DISC, bytes that are none; with one Send it does.
func TestFullTable(t *testing.T) {
	for _, flight := range []int{1, 2, 5} {
		for kind, behind := range [][]byte{requestBytes(read(70, 512, 512), false), requestBytes(disc(), false), make([]byte, 28), requestBytes(api.Request{Type: api.CmdWrite, Length: 513}, false), requestBytes(read(70, 4096, 512), false)} {
			what := fmt.Sprintf("Flight %d, behind it %d", flight, kind)
			c := begun(t, flight)
			for i := range flight {
				request(t, c, read(uint64(i), 4096*uint64(i%2), 512))
			}
			give(t, c, behind)
			wantVain(t, what, c)
			want(t, what+": held", c.Look().Inbox, 28)
			want(t, what, c.Finish(1, api.Outcome{Code: 5}), api.OK)
			wantVain(t, what+": an answer that has not left", c)
			want(t, what, c.Send(1), api.OK)
			want(t, what, c.Take().Kind, []api.TookKind{api.TookRequest, api.TookEnd, api.TookEnd, api.TookEnd, api.TookRequest}[kind])
			want(t, what+": held", c.Look().Inbox, 0)
		}
	}
}

// discs are all kinds of DISC.
func discs(extended bool) []api.Request {
	out := []api.Request{disc(), {Type: api.CmdDisc, Flags: api.FlagFua, Cookie: 7, Offset: 1, Length: 1}, {Type: api.CmdDisc, Flags: 0xffdf, Offset: max64, Length: max32}}
	if extended {
		out = append(out, api.Request{Type: api.CmdDisc, Flags: api.FlagPayload, Length: 3, Data: []byte("bye")}, api.Request{Type: api.CmdDisc, Flags: max16, Length: 900, Data: many(900)})
	} else {
		out = append(out, api.Request{Type: api.CmdDisc, Flags: max16, Length: 5000})
	}
	return out
}

// P14.3: DISC, whatever else it says, without a task: it is over at once.
func TestDiscWithoutATask(t *testing.T) {
	for _, f := range forms() {
		for i, q := range discs(f.extended) {
			what := fmt.Sprintf("%s: DISC %d", f.name, i)
			c := working(t, several(), wide(2), f, "first")
			give(t, c, lay(requestBytes(q, f.extended), []byte("behind")))
			wantEnd(t, what, c, api.Took{Kind: api.TookEnd}, nil)

			c = working(t, several(), wide(2), f, "first")
			s := c.Session()
			request(t, c, read(1, 8192, 512))
			c.Send(1)
			give(t, c, requestBytes(q, f.extended))
			wantEnd(t, what+", an answer in the outbox", c, api.Took{Kind: api.TookEnd}, refusalBytes(s, read(1, 8192, 512), 22))
		}
	}
}

// P14.3, P14.6: DISC with tasks: it drains; they are done and sent as ever, nothing is taken, and behind the last Send it is over.
func TestDiscWithTasks(t *testing.T) {
	for _, f := range forms() {
		for i, q := range discs(f.extended) {
			what := fmt.Sprintf("%s: DISC %d", f.name, i)
			c := working(t, several(), wide(4), f, "first")
			s := c.Session()
			request(t, c, read(1, 0, 512))
			request(t, c, read(2, 8192, 512))
			request(t, c, read(3, 0, 512))
			give(t, c, lay(requestBytes(q, f.extended), requestBytes(read(9, 0, 512), f.extended)))
			wantTook(t, what, c.Take(), api.Took{Kind: api.TookEnd})
			wantLook(t, what, c, api.ConnLook{Phase: api.PhaseDrain, Session: s, Pending: []int{1, 3}, Ready: []int{2}, Next: 4})
			want(t, what+": Over", c.Over(), false)
			want(t, what+": Feed", c.Feed([]byte("more")), 0)
			wantVain(t, what, c)
			wantTask(t, what, c, 3, read(3, 0, 512))
			want(t, what, c.Finish(3, api.Outcome{}), api.ErrOutcome)
			want(t, what, c.Finish(3, api.Outcome{Code: 5}), api.OK)
			want(t, what, c.Send(3), api.OK)
			want(t, what, c.Send(2), api.OK)
			wantLook(t, what, c, api.ConnLook{Phase: api.PhaseDrain, Session: s, Outbox: c.Look().Outbox, Pending: []int{1}, Next: 4})
			wantVain(t, what, c)
			want(t, what, c.Finish(1, api.Outcome{Code: 5}), api.OK)
			inPhase(t, what, c, api.PhaseDrain)
			want(t, what, c.Send(1), api.OK)
			wantOver(t, what, c, 4, lay(refusalBytes(s, read(3, 0, 512), 5), refusalBytes(s, read(2, 8192, 512), 22), refusalBytes(s, read(1, 0, 512), 5)))
		}
	}
}

// P14.6: a connection that does not drain is not over when its table is empty.
func TestEmptyTableAtWork(t *testing.T) {
	c := begun(t, 1)
	for id := 1; id < 20; id++ {
		request(t, c, read(1, 0, 512))
		c.Finish(id, api.Outcome{Code: 5})
		c.Send(id)
		inPhase(t, "work", c, api.PhaseWork)
	}
}
