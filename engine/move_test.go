package engine_test

import (
	"math"
	"strings"
	"testing"

	"spindle/api"
)

// What a move or a say came to, by its steps: their kinds, and of each what was taken, done, or went wrong.
func steps(h heard) string {
	var out []string
	for i, x := range h.Steps {
		a := h.Answers[i]
		switch {
		case a.Err != api.OK:
			out = append(out, named(plainSteps, x.Kind)+" error "+itoa(int(a.Err)))
		case x.Kind == api.STake:
			out = append(out, "take "+plainTook(a.Took))
		default:
			out = append(out, named(plainSteps, x.Kind)+" "+itoa(a.N))
		}
	}
	return strings.Join(out, ", ")
}

// wantSteps asks for the steps of the last one of some lines.
func wantSteps(t *testing.T, lines, wanted string) {
	t.Helper()
	wantText(t, lines, steps(heardOf(t, lines)), wanted)
}

// P18.3: a say of fewer bytes than the mail has, of all, and of more; those that were taken leave the mail.
func TestSay(t *testing.T) {
	mail := "client 0 open\nclient 0 flags 3\nclient 0 list\n" // 20 bytes
	all := "\x00\x00\x00\x03IHAVEOPT\x00\x00\x00\x03\x00\x00\x00\x00"
	for n, size := range map[int]int{0: 0, 1: 1, 3: 3, 19: 19, 20: 20, 21: 20, 1000: 20, math.MaxInt32: 20} {
		h := heardOf(t, mail+"say 0 "+itoa(n)+"\n")
		wantSame(t, "say "+itoa(n), h, heard{Steps: []step{{Kind: api.SFeed, Data: []byte(all[:size])}}, Answers: []answer{{N: size}}})
		want(t, "what is left", string(said(t, mail+"say 0 "+itoa(n)+"\n")), all[size:])
	}
	for _, n := range []int{-1, -20, math.MinInt} {
		s := wantParsed(t, head+mail)
		s.Lines = append(s.Lines, line{Kind: api.LineSay, N: n}, line{Kind: api.LineSay, N: math.MaxInt})
		r := holdRun(t, "say "+itoa(n), s)
		wantSame(t, "say "+itoa(n), r.Heard[3], notAsked)
		want(t, "what is left", string(r.Heard[4].Steps[0].Data), all)
	}
	wantHeard(t, "client 0 open\nsay 0 7\n", heard{Steps: []step{{Kind: api.SFeed}}, Answers: []answer{{}}})
	wantSteps(t, mail+"say 0 2\nsay 0 2\ntake 0\n", "take flags")
	wantSteps(t, mail+"say 0 2\nmove 0\n", "feed 18, take flags, take option 3")

	// What there is no room for stays in the mail: the inbox has room for 1056 bytes.
	many := "client 0 open\nclient 0 flags 3\nclient 0 option 99 " + quote(strings.Repeat("x", 2000)) + "\n"
	wantSteps(t, many+"say 0 5000\n", "feed 1056")
	want(t, "what is left", len(said(t, many+"say 0 5000\n")), 4+16+2000-1056)
	wantSteps(t, many+"say 0 5000\nsay 0 5000\n", "feed 0")
	want(t, "what is left", len(said(t, many+"say 0 5000\nsay 0 5000\nsay 0 5000\n")), 4+16+2000-1056)
	wantSteps(t, many+"say 0 5000\ntake 0\nsay 0 5000\n", "feed 4")

	// A feed that is refused takes nothing out of the mail.
	wantSteps(t, mail+"cut 0\nsay 0 3\n", "feed error 154")
	want(t, "what is left", string(said(t, mail+"cut 0\nsay 0 3\n")), all)
}

// P18.3: a move goes on to its end, and keeps what it does.
func TestMove(t *testing.T) {
	wantSteps(t, "client 0 open\nmove 0\n", "")
	wantSteps(t, "client 0 open\nclient 0 flags 3\nmove 0\n", "feed 4, take flags")
	wantSteps(t, "client 0 open\nclient 0 flags 3\nmove 0\nmove 0\n", "")
	wantSteps(t, "client 0 open\nclient 0 flags 3\nclient 0 list\nmove 0\n", "feed 20, take flags, take option 3")
	wantSteps(t, begin+"client 0 request 3 0 0 0\nmove 0\n", "feed 28, take request 1 3 0 1 0 0, run 1, send 1")
	wantSteps(t, begin+"client 0 request 3 0 0 0\nclient 0 request 0 0 0 8192\nmove 0\n",
		"feed 56, take request 1 3 0 1 0 0, run 1, send 1, take request 2 0 0 2 0 8192 refused, send 2")
	// What others left undone: a request that was taken, one that was done, one that waits in the inbox.
	wantSteps(t, begin+"client 0 request 3 0 0 0\nsay 0 28\ntake 0\nmove 0\n", "run 1, send 1")
	wantSteps(t, begin+"client 0 request 3 0 0 0\nsay 0 28\ntake 0\nrun 0 0\nmove 0\n", "send 1")
	wantSteps(t, begin+"client 0 request 3 0 0 0\nsay 0 28\nmove 0\n", "take request 1 3 0 1 0 0, run 1, send 1")
	wantSteps(t, begin+strings.Repeat("client 0 request 3 0 0 0\n", 4)+"say 0 84\ntake 0\ntake 0\nmove 0\n",
		"feed 28, run 1, send 1, take request 3 3 0 3 0 0, run 2, send 2, take request 4 3 0 4 0 0, run 3, send 3, run 4, send 4")
	// The rest of a message that is not whole yet.
	wantSteps(t, begin+"client 0 request 3 0 0 0\nsay 0 27\nmove 0\n", "feed 1, take request 1 3 0 1 0 0, run 1, send 1")
	// Only its own connection is served.
	wantSteps(t, begin+"client 1 open\nclient 1 flags 3\nclient 0 request 3 0 0 0\nsay 0 28\nmove 1\n", "feed 4, take flags")

	// The mail is fed in as many pieces as there is room for.
	h := heardOf(t, begin+"client 0 request 1 0 0 1024 "+quote(strings.Repeat("x", 1024))+"\nclient 0 request 1 0 0 1024 "+quote(strings.Repeat("y", 1024))+"\nmove 0\n")
	wantText(t, "two writes", steps(h), "feed 1056, take request 1 1 0 1 0 1024, run 1, send 1, feed 1048, take request 2 1 0 2 0 1024, run 2, send 2")
	want(t, "all of the mail is fed at first", len(h.Steps[0].Data), 2*(28+1024))
	want(t, "and then what is left of it", len(h.Steps[4].Data), 2*(28+1024)-1056)
	want(t, "what is heard", shown(h.Events), shown([]event{{Kind: api.EvDone, Cookie: 1}, {Kind: api.EvDone, Cookie: 2}}))
}

// P18.3: what is heard in a move stands with it, in its order.
func TestMoveIsHeard(t *testing.T) {
	wantHears(t, "client 0 open\nclient 0 flags 3\nclient 0 go \"a\"\nmove 0\n",
		"feed 0 27",
		"take 0 flags",
		"take 0 option 7 out 0003e889045565a900000007000000030000000c000000000000000010000d6d0003e889045565a9000000070000000100000000",
		"heard info 0 4096 3437 \"\" 0 0 0 \"\"",
		"heard ack 7",
		"heard start 4096 3437")
	wantHears(t, begin+"client 0 request 1 0 510 2 \"xy\"\nclient 0 request 0 0 509 4\nmove 0\n",
		"feed 0 58",
		"take 0 request 1 1 0 1 510 2",
		"run 0 1 code 0",
		"send 0 1 out 67446698000000000000000000000001",
		"take 0 request 2 0 0 2 509 4",
		"run 0 2 code 0",
		"send 0 2 out 6744669800000000000000000000000200787900",
		"heard done 1 0 \"\"",
		"heard done 2 0 \"\\x00xy\\x00\"")
}

// P18.3: an error ends a move: in a feed, in a take, in a run. (Between a run and a send no connection ends.) A command's own error does not.
func TestMoveEndsWithAnError(t *testing.T) {
	wantSteps(t, begin+"client 0 request 3 0 0 0\ncut 0\nmove 0\n", "feed error 154")
	want(t, "the mail stays", len(said(t, begin+"client 0 request 3 0 0 0\ncut 0\nmove 0\n")), 28)
	wantSteps(t, begin+"cut 0\nmove 0\n", "take error 154")
	wantSteps(t, begin+"client 0 disc\nmove 0\n", "feed 28, take end 0, run error 154")
	wantSteps(t, "client 0 open\nclient 0 flags 3\nclient 0 abort\nclient 0 request 3 0 0 0\nmove 0\n", "feed 20, take flags, take end 2, run error 154")
	wantSteps(t, begin+"client 0 request 3 0 0 0\nsay 0 28\ntake 0\nclient 0 disc\nmove 0\n", "feed 28, take end 0, run 1, send 1, take error 154")
	wantSteps(t, begin+"client 0 request 3 0 0 0\nsay 0 28\ntake 0\nclient 0 disc\nclient 0 close\nclient 0 open\nmove 0\n", "")
	// Mail that comes behind the end of a connection is fed to none.
	wantSteps(t, "client 0 open\nclient 0 flags 3\nclient 0 abort\nmove 0\nmove 0\n", "take error 154")
	wantSteps(t, "client 0 open\nclient 0 flags 3\nclient 0 option 2 \"\"\nsay 0 100\ntake 0\nfeed 0 \"x\"\n", "feed 1")

	wantSteps(t, begin+"fault write any 0 1 land\nclient 0 request 1 1 0 2 \"xy\"\nclient 0 request 3 0 0 0\nmove 0\n",
		"feed 58, take request 1 1 1 1 0 2, run 1, send 1, take request 2 3 0 2 0 0, run 2, send 2")
	h := heardOf(t, begin+"fault write any 0 1 land\nclient 0 request 1 1 0 2 \"xy\"\nmove 0\n")
	want(t, "the run's code", h.Answers[2].Code, api.EIO)
	wantSame(t, "what is heard", h.Events, []event{{Kind: api.EvDone, Cookie: 1, Code: api.EIO}})

	// An error ahead of all: the steps behind it are not made.
	wantHears(t, begin+"client 0 request 3 0 0 0\nsay 0 28\ntake 0\nrun 0 0\nclient 0 request 3 0 0 0\ncut 0\nmove 0\n", "feed error 154")
}

// P18.3: a step that is not kept stands in the Heard neither as step nor as answer.
func TestStepsNotKept(t *testing.T) {
	for _, lines := range []string{
		"client 0 open\nmove 0\n",
		"client 0 open\nclient 0 flags 3\nsay 0 2\nmove 0\nmove 0\n",
		begin + "move 0\n",
		begin + "feed 0 \"%`\\x95\"\nmove 0\n",
	} {
		h := heardOf(t, lines)
		wantSame(t, lines, h, heard{})
		want(t, "no steps", len(h.Steps)+len(h.Answers), 0)
	}
	// A full inbox takes nothing, and what is not whole can't be taken: the mail stays.
	full := begin + "client 0 request 1 0 0 1024 " + quote(strings.Repeat("x", 1024)) + "\n"
	wantSteps(t, full+"feed 0 \"%`\\x95\\x13\\x00\\x00\\x00\\x01\\x00\\x00\\x00\\x00\\x00\\x00\\x00\\x07\\x00\\x00\\x00\\x00\\x00\\x00\\x00\\x00\\x00\\x00\\x04\\x00\"\nmove 0\n",
		"feed 1028, take request 1 1 0 7 0 1024, run 1, send 1, feed 24, take end 0, run error 154")
}

// P18.3: with mail of many messages and a table of one entry, all of it is served, in its order.
func TestMoveOfMany(t *testing.T) {
	s := wantParsed(t, "disk 60\nexport \"a\" 8 1 512 0 \"\"\nconfig 1 1 512 64 1\n"+begin)
	for n := range 100 {
		s.Lines = append(s.Lines, asks(0, ask{Kind: api.AskRequest, Req: api.Request{Type: 1, Offset: uint64(n * 40), Length: 40, Data: []byte(strings.Repeat(string(rune('a'+n%26)), 40))}}))
	}
	s.Lines = append(s.Lines, line{Kind: api.LineMove})
	r := holdRun(t, "a hundred writes", s)
	h := r.Heard[len(r.Heard)-1]
	want(t, "events", len(h.Events), 100)
	for n, v := range h.Events {
		wantSame(t, "event "+itoa(n), v, event{Kind: api.EvDone, Cookie: uint64(n + 1)})
	}
	want(t, "the bytes", string(r.Exports[0][3960:4000]), strings.Repeat(string(rune('a'+99%26)), 40))
	wantSame(t, "another move", holdRun(t, "another move", script{Sectors: s.Sectors, Label: s.Label, Config: s.Config, Lines: append(s.Lines, line{Kind: api.LineMove})}).Heard[len(s.Lines)], heard{})
}
