package trace_test

import (
	"fmt"
	"runtime"
	"testing"

	"spindle/api"
)

// later is all kinds of things that a side may say later.
func later() [][]byte {
	return [][]byte{nil, {0}, greetingBytes(3), flagBytes(3), optionBytes(3), ackBytes(3), exportBytes(1, 1, true), plainly.request(flush(50)), extended.request(flush(51)),
		simpleBytes(0, 1), inChunks.chunk(1, 0, 1, 0, 0), extended.chunk(1, 0, 1, 0, 0), many(500)}
}

// Words: of a wrong side nothing more is looked at, wherever it went wrong, in whatever pieces it goes on; the other side is looked at all the same.
func TestWhatAWrongServerSaysLater(t *testing.T) {
	wrongs := map[string][]step{
		"the greeting":      {fromServer(greetingBytes(0), wrongServer()), fromClient(flagBytes(3), flags(3))},
		"ahead of flags":    {fromServer(lay(greetingBytes(3), greetingBytes(3)), greeting(3), wrongServer()), fromClient(flagBytes(3), flags(3))},
		"no option":         then(greeted(3), fromServer(ackBytes(3), wrongServer())),
		"a reply":           then(greeted(3), fromClient(optionBytes(3), option(3, 0)), fromServer(ackBytes(8), wrongServer())),
		"with bytes behind": then(greeted(3), fromClient(lay(optionBytes(3), optionBytes(8)), option(3, 0), option(8, 0)), fromServer(lay(replyBytes(3, 3), ackBytes(3), ackBytes(8)), wrongServer())),
	}
	for what, steps := range wrongs {
		options := 0
		for _, s := range steps {
			for _, r := range s.wanted {
				if r.Kind == api.RecOption {
					options++
				}
			}
		}
		for n, b := range later() {
			steps = then(steps, fromServer(b), fromClient(optionBytes(uint32(20+n)), option(uint32(20+n), 0)))
			options++
		}
		playFrom(t, what, len(steps), steps, nil, api.Tally{Options: options})
	}
	for _, f := range forms() {
		steps := then(f.waiting(flush(1), flush(2)), fromServer(lay(f.well(9, 0), f.well(1, 0)), wrongServer()))
		open := []int{1, 2}
		for n, b := range later() {
			q := read(uint64(100+n), 0, 9)
			steps = then(steps, fromServer(b), fromClient(f.request(q), request(3+n, q, 0)))
			open = append(open, 3+n)
		}
		playFrom(t, f.name, len(steps), steps, open, api.Tally{Options: f.options(), Requests: len(open)})
	}
}

// Words: the same of a wrong client; what it had asked is still answered.
func TestWhatAWrongClientSaysLater(t *testing.T) {
	steps := []step{fromClient(lay(uint32(8), optionBytes(3)), wrongClient()), fromServer(greetingBytes(3), greeting(3))}
	for _, b := range later() {
		steps = then(steps, fromClient(b))
	}
	playFrom(t, "flags", len(steps), then(steps, fromServer([]byte{0}, wrongServer())), nil, api.Tally{})

	steps = then(greeted(3), fromClient(lay(optionBytes(3), optionBytes(8), many(16), optionBytes(8)), option(3, 0), option(8, 0), wrongClient()))
	for _, b := range later() {
		steps = then(steps, fromClient(b), fromServer(replyBytes(3, 2, b...), reply(3, 2, uint64(len(b)))))
	}
	playFrom(t, "an option", len(steps), then(steps, fromServer(lay(ackBytes(3), ackBytes(8)), ack(3), ack(8)), fromServer([]byte{0}, wrongServer())), nil, api.Tally{Options: 2})

	for _, f := range forms() {
		steps := then(f.waiting(flush(1), flush(2)), fromClient(lay(many(32), f.request(flush(3))), wrongClient()))
		for _, b := range later() {
			steps = then(steps, fromClient(b))
		}
		playFrom(t, f.name, len(steps), then(steps, fromServer(lay(f.well(2, 0), f.well(1, 0)), f.wellDone(2), f.wellDone(1)), fromServer([]byte{0}, wrongServer())), nil, api.Tally{Options: f.options(), Requests: 2, Answered: 2})
	}
}

// Words: both may be wrong, each is told once.
func TestBothWrong(t *testing.T) {
	x := newTap(t, "both")
	wantRecords(t, "the server", x.pass(true, many(18)), []api.Record{wrongServer()})
	wantRecords(t, "the client", x.pass(false, many(4)), []api.Record{wrongClient()})
	for _, b := range later() {
		for _, server := range []bool{false, true} {
			wantRecords(t, "later", x.pass(server, b), nil)
		}
	}
}

// heap tells how many bytes the program has in use.
func heap() int64 {
	runtime.GC()
	var m runtime.MemStats
	runtime.ReadMemStats(&m)
	return int64(m.HeapAlloc)
}

// Words: a trace keeps no data: neither those that are passed over, nor what a side says of which nothing more is looked at, nor what stood ahead of a head that is not whole.
func TestNoDataAreKept(t *testing.T) {
	piece := make([]byte, 1<<22)
	byClient := map[string][]step{
		"data of an option": {fromClient(lay(flagBytes(3), optionHead(3, max32)))},
		"a payload":         then(extended.working(), fromClient(extended.request(asking(1, 1, 0, max64, 32)))),
		"a wrong client":    {fromClient(many(4))},
		"behind a DISC":     then(plainly.working(), fromClient(plainly.request(asking(2, 0, 0, 0)))),
		"behind an ABORT":   then(greeted(3), fromClient(optionBytes(2)), fromServer(ackBytes(2))),
		"behind a GO that is never answered": {
			fromServer(many(18)), fromClient(lay(flagBytes(3), optionBytes(7))),
		},
	}
	byServer := map[string][]step{
		"data of a reply":             {fromClient(lay(flagBytes(3), optionBytes(3))), fromServer(lay(greetingBytes(3), replyHead(3, 2, max32)))},
		"data of a read":              then(plainly.waiting(read(1, 0, max32)), fromServer(simpleBytes(0, 1))),
		"data of a chunk":             then(extended.waiting(read(1, 0, max32)), fromServer(extended.chunkHead(0, 1, 1, 0, max64))),
		"a wrong server":              {fromServer(many(18))},
		"one whose client is no more": then(plainly.waiting(flush(1)), fromClient(plainly.request(flush(1)))),
	}
	for server, cases := range map[bool]map[string][]step{false: byClient, true: byServer} {
		for what, steps := range cases {
			x := fresh(t)
			for _, s := range steps {
				x.Pass(s.server, s.b)
			}
			before := heap()
			for range 16 {
				wantRecords(t, what, x.Pass(server, piece), nil)
			}
			if grown := heap() - before; grown > 1<<24 {
				t.Errorf("%s: %d bytes more are in use", what, grown)
			}
			runtime.KeepAlive(x)
		}
	}
	x := fresh(t)
	x.Pass(false, lay(flagBytes(3), optionHead(3, uint32(len(piece)))))
	before := heap()
	x.Pass(false, lay(piece, optionHead(3, uint32(len(piece))), piece, optionBytes(3)[:7]))
	if grown := heap() - before; grown > 1<<20 {
		t.Errorf("the beginning of a head: %d bytes more are in use", grown)
	}
	wantRecords(t, "the rest of it", x.Pass(false, optionBytes(3)[7:]), []api.Record{option(3, 0)})
	runtime.KeepAlive(piece)
}

// R1: every call ends, however much stands behind an option that waits: many GOs, refused one by one.
func TestManyBehindOptions(t *testing.T) {
	const n = 20000
	x := fresh(t)
	x.Pass(true, greetingBytes(3))
	said := flagBytes(3)
	for range n {
		said = append(said, optionBytes(7)...)
	}
	told := len(x.Pass(false, said))
	refused := replyBytes(7, api.RepUnknown)
	for range n {
		told += len(x.Pass(true, refused))
		told += len(x.Pass(false, optionBytes(7)))
	}
	want(t, "records", told, 1+1+2*n)
	want(t, "Count", x.Count(), api.Tally{Options: n + 1})
	wantRecords(t, fmt.Sprint("behind ", n), x.Pass(true, refused), []api.Record{last(reply(7, api.RepUnknown, 0)), option(7, 0)})
}
