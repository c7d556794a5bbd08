package trace_test

import (
	"testing"

	"spindle/api"
	"spindle/trace"
)

// P22.1: a trace that has seen nothing; each is a new one.
func TestNew(t *testing.T) {
	x, y := fresh(t), fresh(t)
	want(t, "two are one", x == y, false)
	for _, z := range []*trace.Trace{x, y} {
		wantList(t, "Open", z.Open(), nil)
		want(t, "Count", z.Count(), api.Tally{})
		wantRecords(t, "no byte", z.Pass(false, nil), nil)
		wantRecords(t, "no byte", z.Pass(true, nil), nil)
	}
}

// R1, P22.2: of a trace that New did not give nothing is told, whatever passes.
func TestTracesThatNoCallMade(t *testing.T) {
	var none *trace.Trace
	for name, x := range map[string]*trace.Trace{"nil": none, "zero": {}} {
		for range 2 {
			for _, b := range [][]byte{nil, {}, {0}, greetingBytes(3), flagBytes(3), optionBytes(3), ackBytes(3), requestBytes(read(1, 0, 1), false), simpleBytes(0, 1), many(1000)} {
				for _, server := range []bool{false, true} {
					wantRecords(t, name+": Pass", x.Pass(server, b), nil)
					wantList(t, name+": Open", x.Open(), nil)
					want(t, name+": Count", x.Count(), api.Tally{})
				}
			}
		}
	}
	want(t, "a zero one is still one", trace.Trace{} == trace.Trace{}, true)
}

// R5: what passed by one trace is nothing to a zero one, and the other way round.
func TestZeroBesideOthers(t *testing.T) {
	x, zero := fresh(t), &trace.Trace{}
	for _, s := range plainly.waiting(read(1, 0, 4)) {
		wantRecords(t, "zero", zero.Pass(s.server, s.b), nil)
		wantRecords(t, "one of New's", x.Pass(s.server, s.b), s.wanted)
	}
	wantList(t, "Open", x.Open(), []int{1})
	wantList(t, "Open of a zero one", zero.Open(), nil)
}

// P22.2: a Pass of no byte tells nothing, wherever it comes; neither does it make a side wrong of which nothing is awaited.
func TestNoByte(t *testing.T) {
	for _, f := range forms() {
		x := newTap(t, f.name)
		nothing := func() {
			for _, server := range []bool{false, true} {
				wantRecords(t, f.name, x.pass(server, nil), nil)
				wantRecords(t, f.name, x.pass(server, []byte{}), nil)
			}
		}
		for _, s := range f.waiting(paid(write(1, 0), many(4)...), flush(2)) {
			nothing()
			wantRecords(t, f.name, x.pass(s.server, s.b), s.wanted)
		}
		nothing()
	}
}

// P22.2: the client's records come first, as many as there are, and then the server's, one by one.
func TestTheClientsFirst(t *testing.T) {
	q := read(5, 0, 3)
	said := lay(optionBytes(3), optionBytes(7), requestBytes(q, false), requestBytes(flush(6), false), requestBytes(read(7, 1, 2), false))
	told := []api.Record{
		last(reply(3, 1, 0)),
		last(reply(7, 1, 2)),
		request(1, q, 0), request(2, flush(6), 0), request(3, read(7, 1, 2), 0),
		answer(3, 0, 2), answer(1, 5, 0), answer(2, 0, 0),
	}
	play(t, "behind GO", then(greeted(3),
		fromClient(said, option(3, 0), option(7, 0)),
		fromServer(lay(ackBytes(3), replyBytes(7, 1, many(2)...), simpleBytes(0, 7, many(2)...), simpleBytes(5, 5), simpleBytes(0, 6)), told...),
	), nil, api.Tally{Options: 2, Requests: 3, Answered: 3, Failed: 1, Read: 2})

	// The client has said all that it ever says ahead of the greeting.
	play(t, "ahead of the greeting", []step{
		fromClient(lay(flagBytes(3), said), flags(3), option(3, 0), option(7, 0)),
		fromServer(lay(greetingBytes(1), ackBytes(3), replyBytes(7, 1, many(2)...), simpleBytes(5, 5), simpleBytes(0, 7, many(2)...)),
			greeting(1), last(reply(3, 1, 0)), last(reply(7, 1, 2)), request(1, q, 0), request(2, flush(6), 0), request(3, read(7, 1, 2), 0), answer(1, 5, 0), answer(3, 0, 2)),
	}, []int{2}, api.Tally{Options: 2, Requests: 3, Answered: 2, Failed: 1, Read: 2})

	// What the client has said may be wrong: that is seen when the server's answer leads to it.
	play(t, "a wrong client behind GO", then(greeted(3),
		fromClient(lay(optionBytes(7), many(28)), option(7, 0)),
		fromServer(ackBytes(7), ack(7), wrongClient()),
	), nil, api.Tally{Options: 1})
}
