package trace_test

import (
	"strings"
	"testing"

	"spindle/api"
	"spindle/trace"
)

func inWords(list []api.Record) string {
	var words []string
	for _, r := range list {
		words = append(words, trace.Tell(r))
	}
	return strings.Join(words, "; ")
}

func wantWords(t *testing.T, x *trace.Trace, server bool, b []byte, wanted string) {
	t.Helper()
	want(t, "Pass", inWords(x.Pass(server, b)), wanted)
}

// Example 1.
func TestExampleList(t *testing.T) {
	x := fresh(t)
	wantWords(t, x, true, greetingBytes(3), "server greeting 3")
	wantWords(t, x, false, lay(uint32(3), optionBytes(3)), "client flags 3; client option list 0")
	wantWords(t, x, true, lay(replyBytes(3, 2, 0, 0, 0, 1, 'a'), ackBytes(3)), "server reply list server 5; server reply list ack 0 last")
}

// Example 2.
func TestExampleGo(t *testing.T) {
	x := fresh(t)
	x.Pass(true, greetingBytes(3))
	x.Pass(false, flagBytes(3))
	wantWords(t, x, false, lay(optionBytes(7, many(7)...), requestBytes(read(1, 0, 512), false), requestBytes(read(2, 0, 512), false)), "client option go 7")
	wantWords(t, x, true, lay(replyBytes(7, 3, many(12)...), ackBytes(7), simpleBytes(0, 2, many(512)...)),
		"server reply go info 12; server reply go ack 0 last; client request 1 read 0 1 0 512; client request 2 read 0 2 0 512; server answer 2 ok 512 last")
	wantList(t, "Open", x.Open(), []int{1})

	// Example 3.
	wantWords(t, x, true, simpleBytes(0, 9), "server wrong")
	wantWords(t, x, true, []byte("anything"), "")
	wantList(t, "Open", x.Open(), []int{1})
}

// Example 4.
func TestExampleLongOption(t *testing.T) {
	x := fresh(t)
	x.Pass(true, greetingBytes(3))
	x.Pass(false, flagBytes(3))
	wantWords(t, x, false, optionHead(3, 100000)[:15], "")
	wantWords(t, x, false, optionHead(3, 100000)[15:], "client option list 100000")
	wantWords(t, x, false, make([]byte, 99999), "")
	wantWords(t, x, false, lay(make([]byte, 1), optionBytes(8)), "client option structured-reply 0")
}
