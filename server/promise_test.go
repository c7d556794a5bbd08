package server_test

import (
	"fmt"
	"slices"
	"testing"

	"spindle/api"
	"spindle/disk"
	"spindle/label"
	"spindle/server"
)

// W3: whatever bytes arrive on one connection, what leaves on it is what the protocol lets a server say; all others, the exports, the cache and the disk are as they were.
func TestAnyBytesOnOneConnection(t *testing.T) {
	d := dice(31)
	for run := range 400 {
		s := started(t, filled(t), config(3, 3, 2))
		quiet := begun(t, s, forms()[run%5], several()[run%4].Name)
		asked(t, s, quiet, read(0, 512))
		before := stateOf(s)
		c := mustStep(t, s, opens()).Conn
		if run%2 == 0 {
			mustStep(t, s, feeds(c, lay(flagBytes(3), goTo("a"))))
			mustStep(t, s, takes(c))
			want(t, "GO", mustStep(t, s, takes(c)).Took.Code, api.OptGo)
		}
		for range 10 {
			a := s.Step(feeds(c, thrownBytes(&d)))
			if a.Err == api.ErrConn {
				break
			}
			took := s.Step(takes(c))
			if took.Took.Code != 0 {
				wantReplies(t, fmt.Sprint("run ", run), took)
			} else {
				want(t, "said to what is no option", len(took.Out), 0)
			}
			if sent := s.Step(sends(c, 0)); took.Took.Refused && sent.Err == api.OK {
				h := hear(t, api.Session{}, took.Took.Task.Req, sent.Out)
				want(t, "refused", h.code != 0, true)
			}
		}
		s.Step(shuts(c))
		before.look.Next++
		wantState(t, fmt.Sprint("run ", run), s, before)
	}
}

// thrownBytes throws for bytes that begin like a message, or not.
func thrownBytes(d *dice) []byte {
	b := make([]byte, d.below(120))
	for i := range b {
		b[i] = pick(d, 0, 0, 0, 1, 3, byte(d.below(256)))
	}
	if d.bool() {
		copy(b, pick(d, []byte("IHAVEOPT"), requestBytes(read(0, 0), false)[:4], requestBytes(read(0, 0), true)[:4], flagBytes(3)))
	}
	return b
}

// W4: a request that the rules refuse is answered with that error, and changes neither the exports nor the cache nor the disk; it is ready at once, and never pending.
func TestRefusals(t *testing.T) {
	met := map[uint32]int{}
	for _, f := range forms() {
		for at, e := range several() {
			size := uint64(512 * e.Sectors)
			s := started(t, filled(t), config(4, 2, 2))
			c := begun(t, s, f, e.Name)
			well(t, s, c, read(0, 512))
			before := stateOf(s)
			for _, q := range wrongRequests(size) {
				code := refusal(e, session(s, c), 4608, q)
				if code == 0 {
					continue
				}
				met[code]++
				if f.extended && q.Flags&api.FlagPayload == 0 {
					q.Data = nil // with extended headers none comes that is not told
				}
				what := fmt.Sprintf("%s, export %d: command %d with flags %d, %d bytes from %d on", f.name, at, q.Type, q.Flags, q.Length, q.Offset)
				mustStep(t, s, feeds(c, requestBytes(q, f.extended)))
				took := mustStep(t, s, takes(c)).Took
				want(t, what+": refused", took.Refused, true)
				want(t, what+": nothing is to be done", s.Step(runs(c, 0)).Err, api.ErrStep)
				sent := mustStep(t, s, sends(c, 0))
				want(t, what+": the task", sent.N, took.Task.ID)
				wantSame(t, what, hear(t, session(s, c), q, sent.Out), heard{code: code})
				before.look.Conns[0].Look.Next++
				wantState(t, what, s, before)
			}
		}
	}
	for _, code := range []uint32{api.EPerm, api.EInval, api.ENoSpc, api.ENotSup} {
		if met[code] < 10 {
			t.Errorf("error %d: only %d times", code, met[code])
		}
	}
}

// wrongRequests are some of which each is refused for some export and session at least; none is a message that ends a connection.
func wrongRequests(size uint64) []api.Request {
	var out []api.Request
	for _, kind := range []uint16{0, 4, 5, 6, 7, 8, 100, 65535} {
		out = append(out, request(kind, 0, 0), request(kind, 0, size+1), request(kind, size, 1), request(kind, size-1, 2), request(kind, max64, 1), request(kind, 0, max32), request(kind, 1, 511), request(kind, 0, 512), request(kind, 0, 4609))
		for _, flag := range []uint16{1, 2, 4, 8, 16, 64, 1 << 15, 2 | 16} {
			out = append(out, request(kind, 0, 512, flag), request(kind, 1, 512, flag))
		}
	}
	data := many(512)
	out = append(out, write(0, nil), write(0, data), write(size, data), write(max64, data), write(1, data), write(0, data, api.FlagDF), write(0, data, 64))
	out = append(out, write(0, nil, api.FlagPayload), write(size-1, data, api.FlagPayload), write(0, data, api.FlagPayload), write(0, data, api.FlagPayload|api.FlagNoHole))
	out = append(out, request(api.CmdFlush, 0, 1), request(api.CmdFlush, 1, 0), request(api.CmdFlush, 0, 0, api.FlagNoHole))
	for i := range out {
		out[i].Cookie = uint64(i) + 1
	}
	return out
}

// W6: served in rounds, each request that was taken or stands whole in the inbox is answered just once, within as many rounds as messages are taken of its connection, and one more.
func TestRounds(t *testing.T) {
	d := dice(61)
	for run := range 60 {
		flight := pick(&d, 1, 2, 3, 5)
		s := started(t, filled(t), config(pick(&d, 1, 2, 8), 4, flight))
		open := map[int]map[uint64]api.Request{} // what was asked and not answered, by connection and cookie
		forms := map[int]form{}
		for range 1 + d.below(4) {
			f := pick(&d, forms3()...)
			c := begun(t, s, f, several()[d.below(4)].Name)
			open[c], forms[c] = map[uint64]api.Request{}, f
			for n := range d.below(9) {
				q := read(512*uint64(d.below(7)), uint64(512*d.below(3)))
				q.Cookie = uint64(n)
				b := requestBytes(q, f.extended)
				if mustStep(t, s, feeds(c, b)).N < len(b) {
					break
				}
				open[c][q.Cookie] = q
				if d.bool() {
					mustStep(t, s, takes(c))
				}
				s.Step(runs(c, d.below(3)))
			}
		}
		taken := map[int]int{}
		rounds := 0
		for ; left(open) > 0 && rounds < 100; rounds++ {
			for _, x := range s.Look().Conns {
				taken[x.Conn] += round(t, s, x, open[x.Conn], forms[x.Conn])
			}
		}
		most := 0
		for _, n := range taken {
			most = max(most, n)
		}
		want(t, fmt.Sprint("run ", run, ": requests that were not answered"), left(open), 0)
		want(t, fmt.Sprint("run ", run, ": as many rounds as messages, and one more"), rounds <= most+1, true)
		for _, x := range s.Look().Conns {
			round(t, s, x, nil, forms[x.Conn])
		}
	}
}

// forms3 are those that read differently.
func forms3() []form { return forms()[:3] }

func left(open map[int]map[uint64]api.Request) int {
	n := 0
	for _, list := range open {
		n += len(list)
	}
	return n
}

// round serves a connection once: all that is pending is done, all that is ready leaves, one message is taken; it tells whether one was.
func round(t *testing.T, s *server.Server, x api.Served, open map[uint64]api.Request, f form) int {
	t.Helper()
	for range x.Look.Pending {
		want(t, "code", mustStep(t, s, runs(x.Conn, 0)).Code, 0)
	}
	for range len(x.Look.Pending) + len(x.Look.Ready) {
		b := mustStep(t, s, sends(x.Conn, 0)).Out
		cookie := uint64(0)
		for _, v := range b[8:16] {
			cookie = cookie<<8 | uint64(v)
		}
		q, there := open[cookie]
		if !there {
			t.Fatal("an answer to what was not asked, or to what was answered")
		}
		hear(t, x.Look.Session, q, b)
		delete(open, cookie)
	}
	if mustStep(t, s, takes(x.Conn)).Took.Kind == api.TookNone {
		return 0
	}
	return 1
}

// W8: whatever crash comes in a Commit, a server over the disk has the label from before or the new one, whole, and serves its exports as they were.
func TestLabelBehindCrashes(t *testing.T) {
	d := dice(81)
	other := several()
	other[0].Desc, other[3].Name = "another", "renamed"
	met := map[string]int{}
	for run := range 200 {
		x, _ := disk.Load(filled(t))
		x.Fault(api.Fault{Kind: pick(&d, api.FaultWrite, api.FaultBarrier), Sector: -1, After: d.below(22), Times: 1, Land: d.bool()})
		e := label.Commit(x, api.Label{Exports: other})
		keep := make([]bool, len(x.Queue()))
		for i := range keep {
			keep[i] = d.bool()
		}
		x.Crash(keep)
		s := started(t, x.Image(), config(3, 2, 2))
		switch {
		case same(s.Label(), api.Label{Exports: other}):
			met["new"]++
		case same(s.Label(), api.Label{Exports: several()}) && e != api.OK:
			met["old"]++
		default:
			t.Fatalf("run %d: Commit answered %d, the label is %+v", run, e, s.Label())
		}
		for _, y := range shapes() {
			wantBytes(t, "the exports", peeked(t, s, y.at), y.bytes())
		}
	}
	if met["new"] < 5 || met["old"] < 5 {
		t.Error("too few of one kind:", met)
	}
}

// W8: whatever crash comes in a Format: there is one that stood there before, the new one, or none that a server takes.
func TestFormatBehindCrashes(t *testing.T) {
	d := dice(82)
	fresh := []api.Export{export("new", 20)}
	met := map[string]int{}
	for range 200 {
		x, _ := disk.Load(filled(t))
		x.Fault(api.Fault{Kind: pick(&d, api.FaultWrite, api.FaultBarrier), Sector: -1, After: d.below(26), Times: 1, Land: d.bool()})
		label.Format(x, api.Label{Exports: fresh})
		keep := make([]bool, len(x.Queue()))
		for i := range keep {
			keep[i] = d.bool()
		}
		x.Crash(keep)
		s, e := server.New(x.Image(), config(3, 2, 2))
		switch {
		case e == api.ErrNone || e == api.ErrSpoilt:
			met["none"]++
		case same(s.Label(), api.Label{Exports: fresh}):
			met["new"]++
		case same(s.Label(), api.Label{Exports: several()}):
			met["old"]++
		default:
			t.Fatalf("error %d, the label is %+v", e, s.Label())
		}
	}
	if met["new"] < 3 || met["old"] < 3 || met["none"] < 3 {
		t.Error("too few of one kind:", met)
	}
}

// W10: two servers over the same image, stepped alike, answer alike and have the same disks.
func TestStepsAlike(t *testing.T) {
	d := dice(101)
	for run := range 20 {
		c := thrownConfig(&d)
		one, two := started(t, filled(t), c), started(t, filled(t), c)
		y := newScript(&d, several(), diskSectors)
		for n := range 300 {
			step := y.next(one.Look())
			a, b := one.Step(step), two.Step(step)
			wantSame(t, fmt.Sprintf("run %d, step %d", run, n), b, a)
			y.did(step, a)
			if n%20 == 0 {
				wantState(t, fmt.Sprintf("run %d, step %d", run, n), two, stateOf(one))
			}
		}
		wantState(t, fmt.Sprint("run ", run), two, stateOf(one))
	}
}

// W10: a server that is down, started over the image that its disk has, serves as one that SStart has started, but for the numbers of connections.
func TestStartedAnew(t *testing.T) {
	d := dice(102)
	for run := range 20 {
		c := thrownConfig(&d)
		old := started(t, filled(t), c)
		y := newScript(&d, several(), diskSectors)
		for range 150 {
			step := y.next(old.Look())
			y.did(step, old.Step(step))
		}
		for !old.Up() {
			old.Step(rises())
		}
		mustStep(t, old, falls(thrownKeep(&d, old.Look().Queue)...))
		anew := started(t, old.Image(), c)
		mustStep(t, old, rises())
		first := old.Look().Next
		z := newScript(&d, several(), diskSectors)
		for n := range 200 {
			step := z.next(anew.Look())
			shifted := step
			shifted.Conn += first
			if step.Conn < 0 || step.Conn >= anew.Look().Next {
				continue
			}
			a, b := anew.Step(step), old.Step(shifted)
			if step.Kind == api.SOpen && a.Err == api.OK {
				b.Conn -= first
			}
			wantSame(t, fmt.Sprintf("run %d, step %d", run, n), b, a)
			z.did(step, a)
		}
		wantBytes(t, "the disks", old.Image(), anew.Image())
		wantQueue(t, "the disks", old.Queue(), anew.Queue())
		if !slices.Equal(old.Look().Lines, anew.Look().Lines) {
			t.Error("the lines differ")
		}
	}
}
