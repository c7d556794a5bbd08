package trace_test

import (
	"testing"

	"spindle/api"
)

// wantCount lets bytes pass, and looks at what is outstanding and counted behind them.
func wantCount(t *testing.T, x *tap, server bool, b []byte, tally api.Tally, open ...int) {
	t.Helper()
	x.pass(server, b)
	wantList(t, "Open", x.x.Open(), open)
	want(t, "Count", x.x.Count(), tally)
}

// P22.8: each number grows just when its thing is seen, and Open tells what is outstanding, whatever the order of the answers.
func TestCountPlainly(t *testing.T) {
	x := newTap(t, "plain")
	var c api.Tally
	says := func(server bool, b []byte, open ...int) {
		t.Helper()
		wantCount(t, x, server, b, c, open...)
	}
	says(true, greetingBytes(3))
	says(false, flagBytes(3))
	c.Options = 1
	says(false, optionBytes(3, 1, 2, 3))
	c.Options = 2
	says(false, optionBytes(7))
	says(true, lay(ackBytes(3), ackBytes(7)))
	c.Requests = 1
	says(false, plainly.request(read(1, 0, 100)), 1)
	c.Requests, c.Written = 2, 30
	says(false, plainly.request(write(2, 0, many(30)...))[:28], 1, 2) // of its head alone
	says(false, many(30), 1, 2)
	c.Requests, c.Written = 3, 31
	says(false, plainly.request(write(3, 0, 1)), 1, 2, 3)
	c.Requests = 6
	says(false, lay(plainly.request(read(4, 0, 7)), plainly.request(flush(5)), plainly.request(asking(6, 6, 0, 99))), 1, 2, 3, 4, 5, 6) // a zero writes nothing that passes
	c.Answered, c.Failed = 1, 1
	says(true, simpleBytes(28, 3), 1, 2, 4, 5, 6)
	c.Answered, c.Read = 2, 7
	says(true, simpleBytes(0, 4), 1, 2, 5, 6) // of its head alone
	says(true, many(7), 1, 2, 5, 6)
	c.Answered, c.Failed = 3, 2
	says(true, simpleBytes(5, 1), 2, 5, 6) // a read that failed tells nothing
	c.Answered = 4
	says(true, simpleBytes(0, 6), 2, 5)
	c.Requests = 7
	says(false, plainly.request(flush(1)), 2, 5, 7)
	says(false, plainly.request(asking(2, 2, 0, 9)), 2, 5, 7) // DISC
	c.Answered = 6
	says(true, lay(simpleBytes(0, 1), simpleBytes(0, 2)), 5)
	says(true, simpleBytes(0, 77), 5) // wrong
	says(true, simpleBytes(0, 5), 5)
}

// P22.8: what comes in chunks; Failed counts a request that was answered, once, however many errors were told, and wherever.
func TestCountChunks(t *testing.T) {
	for _, f := range []form{inChunks, extended} {
		x := newTap(t, f.name)
		for _, s := range f.waiting(read(1, 0, 100), read(2, 0, 100), read(3, 0, 100), asking(7, 4, 0, 100), flush(5)) {
			x.pass(s.server, s.b)
		}
		c := api.Tally{Options: 2, Requests: 5}
		says := func(b []byte, open ...int) {
			t.Helper()
			wantCount(t, x, true, b, c, open...)
		}
		c.Read = 1
		says(f.chunk(0, 1, 1, 0, 9), 1, 2, 3, 4, 5)
		c.Read = 51
		says(f.chunk(0, 1, 2, 0, 58), 1, 2, 3, 4, 5)
		says(f.chunk(0, 2, 1, 0, 12), 1, 2, 3, 4, 5)     // a hole has no bytes
		says(f.chunk(0, 32769, 2, 0, 6), 1, 2, 3, 4, 5)  // not answered yet
		says(f.chunk(0, 32770, 2, 0, 14), 1, 2, 3, 4, 5) // a second error
		c.Answered, c.Failed = 1, 1
		says(f.chunk(1, 0, 2, 0, 0), 1, 3, 4, 5)
		c.Answered, c.Failed = 2, 2
		says(f.chunk(1, 32770, 3, 0, 14), 1, 4, 5)
		c.Answered, c.Read = 3, 53
		says(f.chunk(1, 1, 1, 0, 10), 4, 5)
		says(f.chunk(0, f.statusKind(), 4, 0, 28), 4, 5)
		c.Answered = 4
		says(f.chunk(1, f.statusKind(), 4, 0, 44), 5)
		c.Answered = 5
		says(f.chunk(1, 0, 5, 0, 0))
		// A cookie that comes again has not failed.
		x.pass(false, f.request(flush(2)))
		c.Requests, c.Answered = 6, 6
		says(f.chunk(1, 0, 2, 0, 0))
	}
}

// P22.8: payloads of extended requests, of a DISC, too; those of commands that have none are not counted.
func TestCountPayloads(t *testing.T) {
	x := newTap(t, "extended")
	for _, s := range extended.working() {
		x.pass(s.server, s.b)
	}
	c := api.Tally{Options: 2}
	says := func(q api.Request, written uint64, open ...int) {
		t.Helper()
		c.Requests, c.Written = len(open), written
		wantCount(t, x, false, extended.request(q), c, open...)
	}
	says(paid(write(1, 0), many(10)...), 10, 1)
	says(paid(asking(7, 2, 0, 0), many(5)...), 15, 1, 2)
	says(asking(1, 3, 0, 1000), 15, 1, 2, 3) // a write without the flag has none
	says(paid(asking(99, 4, 0, 0), many(3)...), 18, 1, 2, 3, 4)
	says(paid(asking(2, 1, 0, 0), many(7)...), 25, 1, 2, 3, 4)
	says(paid(write(5, 0), many(7)...), 25, 1, 2, 3, 4) // nothing behind it is looked at
}

// P22.8: options are counted also if they are never answered, and those that make the client wrong are not.
func TestCountOptions(t *testing.T) {
	x := newTap(t, "options")
	x.pass(false, flagBytes(0))
	for n := range 50 {
		wantCount(t, x, false, optionBytes(uint32(n%6)+20, many(n)...), api.Tally{Options: n + 1})
	}
	wantCount(t, x, false, many(16), api.Tally{Options: 50})
	wantCount(t, x, false, optionBytes(3), api.Tally{Options: 50})
}

// P22.8: many outstanding at a time are told rising, whatever their cookies are.
func TestOpenOfMany(t *testing.T) {
	x := newTap(t, "many")
	for _, s := range plainly.working() {
		x.pass(s.server, s.b)
	}
	d := dice(3)
	var cookies []uint64
	var said []byte
	for range 500 {
		cookies = append(cookies, uint64(d.below(1<<30))<<30+uint64(len(cookies)))
		said = append(said, plainly.request(flush(cookies[len(cookies)-1]))...)
	}
	x.pass(false, said)
	for range 480 {
		open := x.x.Open()
		for i := 1; i < len(open); i++ {
			if open[i-1] >= open[i] {
				t.Fatal("Open is not rising:", open)
			}
		}
		n := open[d.below(len(open))]
		wantRecords(t, "answered", x.pass(true, simpleBytes(0, cookies[n-1])), []api.Record{answer(n, 0, 0)})
	}
	want(t, "left", len(x.x.Open()), 20)
}
