package engine_test

import (
	"strings"
	"testing"

	"spindle/api"
)

// The chapter's script, up to its request, and that.
const (
	exampleHead    = "disk 60\nexport \"a\" 8 1 512 0 \"first\"\nconfig 4 2 1024 64 2\nclient 0 open\nclient 0 flags 3\nclient 0 go \"a\"\n"
	exampleRequest = "client 0 request 1 1 510 2 \"xy\"\n"
)

func TestExample1(t *testing.T) {
	wantPlayed(t, "as it stands", exampleHead+exampleRequest+"move 0\n", ""+
		"> client 0 open\n"+
		"open 0 out 4e42444d4147494349484156454f50540003\n"+
		"heard greeting 3\n"+
		"> client 0 flags 3\n"+
		"> client 0 go \"a\"\n"+
		"> client 0 request 1 1 510 2 \"xy\"\n"+
		"error 160\n"+
		"> move 0\n"+
		"feed 0 27\n"+
		"take 0 flags\n"+
		"take 0 option 7 out 0003e889045565a900000007000000030000000c000000000000000010000d6d0003e889045565a9000000070000000100000000\n"+
		"heard info 0 4096 3437 \"\" 0 0 0 \"\"\n"+
		"heard ack 7\n"+
		"heard start 4096 3437\n"+
		"up\n"+
		"export 0 4096 98f94189\n"+
		"queue 0\n")
	wantPlayed(t, "with a move ahead of the request", exampleHead+"move 0\n"+exampleRequest+"move 0\n", ""+
		"> client 0 open\n"+
		"open 0 out 4e42444d4147494349484156454f50540003\n"+
		"heard greeting 3\n"+
		"> client 0 flags 3\n"+
		"> client 0 go \"a\"\n"+
		"> move 0\n"+
		"feed 0 27\n"+
		"take 0 flags\n"+
		"take 0 option 7 out 0003e889045565a900000007000000030000000c000000000000000010000d6d0003e889045565a9000000070000000100000000\n"+
		"heard info 0 4096 3437 \"\" 0 0 0 \"\"\n"+
		"heard ack 7\n"+
		"heard start 4096 3437\n"+
		"> client 0 request 1 1 510 2 \"xy\"\n"+
		"cookie 1\n"+
		"> move 0\n"+
		"feed 0 30\n"+
		"take 0 request 1 1 1 1 510 2\n"+
		"run 0 1 code 0\n"+
		"send 0 1 out 67446698000000000000000000000001\n"+
		"heard done 1 0 \"\"\n"+
		"up\n"+
		"export 0 4096 bed7decd\n"+
		"queue 0\n")
	r := ran(t, wantParsed(t, exampleHead+"move 0\n"+exampleRequest+"move 0\n"))
	want(t, "x and y", string(r.Exports[0]), strings.Repeat("\x00", 510)+"xy"+strings.Repeat("\x00", 3584))
	want(t, "the queue", r.Queue, 0)
}

func TestExample2(t *testing.T) {
	for request, wanted := range map[string]string{exampleRequest: "xy", "client 0 request 1 0 510 2 \"xy\"\n": "\x00\x00"} {
		r := ran(t, wantParsed(t, exampleHead+"move 0\n"+request+"move 0\ncrash -\nstart\n"))
		want(t, "the bytes behind a crash", string(r.Exports[0][510:512]), wanted)
	}
}

func TestExample3(t *testing.T) {
	wantRefused(t, "disk 60\nexport \"a\" 8 1 512 16 \"\"\nconfig 4 2 1024 64 2\n", 2, api.ErrLine)
	wantRefused(t, "disk 60\nexport \"a\" 8 1 512 0 \"\"\n", 3, api.ErrLine)
}

func TestExample4(t *testing.T) {
	wantRefused(t, head+"client 0 request 0 0 0 512 \"x\"\n", 4, api.ErrLine)
	wantHears(t, "client 3 list\n", "error 160")
}

func TestExample5(t *testing.T) {
	wantHears(t, begin+"fault write any 0 1 land\n"+exampleRequest+"move 0\n",
		"feed 0 30",
		"take 0 request 1 1 1 1 510 2",
		"run 0 1 code 5",
		"send 0 1 out 67446698000000050000000000000001",
		"heard done 1 5 \"\"")
}
