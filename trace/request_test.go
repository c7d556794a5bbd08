package trace_test

import (
	"fmt"
	"testing"

	"spindle/api"
)

// P22.4: requests of all commands, with what they say; the next head stands right behind the payload.
func TestRequests(t *testing.T) {
	for _, f := range forms() {
		for _, kind := range []uint16{0, 1, 3, 4, 5, 6, 7, 8, 77, max16} {
			for _, flags := range []uint16{0, 1, 32, max16} {
				q := asking(kind, 7, 1<<40+5, 20, flags)
				if has := kind == 1; !f.extended && has || f.extended && flags&32 != 0 {
					q.Data = many(20)
				}
				other := q
				other.Cookie++
				size := uint64(len(q.Data))
				play(t, fmt.Sprintf("%s, command %d with flags %d", f.name, kind, flags), then(f.working(),
					fromClient(lay(f.request(q), f.request(other), f.request(flush(max64))), request(1, q, size), request(2, other, size), request(3, flush(max64), 0)),
				), []int{1, 2, 3}, api.Tally{Options: f.options(), Requests: 3, Written: 2 * size})
			}
		}
	}
}

// P22.4: the ends of what a request can say.
func TestGreatRequests(t *testing.T) {
	for _, f := range forms() {
		greatest := uint64(max32)
		if f.extended {
			greatest = max64
		}
		for _, kind := range []uint16{0, 4, 7} {
			q := asking(kind, max64, max64, greatest, max16&^32)
			play(t, f.name, then(f.working(), fromClient(f.request(q), request(1, q, 0))), []int{1}, api.Tally{Options: f.options(), Requests: 1})
		}
		q := asking(1, 0, 0, greatest, 32)
		play(t, f.name+": a payload beyond what ever comes", then(f.working(),
			fromClient(lay(f.request(q), many(50)), request(1, q, greatest)),
			fromClient(f.request(flush(1))),
			fromServer(f.refused(0, 0), f.refusal(1)),
		), nil, api.Tally{Options: f.options(), Requests: 1, Answered: 1, Failed: 1, Written: greatest})
	}
}

// refused is an answer with an error, and refusal its record.
func (f form) refused(cookie, off uint64) []byte {
	if f.extended {
		return f.chunk(1, api.ChunkError, cookie, off, 6)
	}
	return simpleBytes(5, cookie)
}

func (f form) refusal(n int) api.Record {
	if f.extended {
		return last(chunk(n, api.ChunkError, 6))
	}
	return answer(n, 5, 0)
}

// well is an answer to a request that tells nothing but that it is done, and its record.
func (f form) well(cookie, off uint64) []byte {
	if f.extended {
		return f.chunk(1, api.ChunkNone, cookie, off, 0)
	}
	return simpleBytes(0, cookie)
}

func (f form) wellDone(n int) api.Record {
	if f.extended {
		return last(chunk(n, 0, 0))
	}
	return answer(n, 0, 0)
}

// P22.4: a payload may come late, in many pieces, and look like requests; a payload of no byte is none.
func TestPayloads(t *testing.T) {
	for _, f := range forms() {
		inner := lay(f.request(flush(3)), f.request(read(4, 0, 1)))
		q := paid(write(1, 0), inner...)
		steps := then(f.working(), fromClient(f.request(q)[:f.head()], request(1, q, uint64(len(inner)))))
		for _, b := range inner {
			steps = then(steps, fromClient([]byte{b}))
		}
		none := paid(write(2, 0))
		steps = then(steps, fromClient(lay(f.request(none), f.request(flush(3))), request(2, none, 0), request(3, flush(3), 0)))
		play(t, f.name, steps, []int{1, 2, 3}, api.Tally{Options: f.options(), Requests: 3, Written: uint64(len(inner))})
	}
}

// head is how many bytes a request's head has.
func (f form) head() int {
	if f.extended {
		return 32
	}
	return 28
}

// P22.4: a head is seen with its last byte, not earlier.
func TestRequestHeads(t *testing.T) {
	for _, f := range forms() {
		for n := range f.head() {
			x := newTap(t, fmt.Sprintf("%s, %d bytes", f.name, n))
			for _, s := range f.working() {
				x.pass(s.server, s.b)
			}
			wantRecords(t, x.what, x.pass(false, f.request(flush(1))[:n]), nil)
			wantRecords(t, x.what, x.pass(false, many(f.head()-1-n)), nil) // another magic is none as long as the head is not whole
		}
	}
}

// P22.4: another magic, that of the other kind of requests among them: the client is wrong; what it asked ahead is still answered.
func TestRequestMagic(t *testing.T) {
	for _, f := range forms() {
		wrongs := [][]byte{requestBytes(flush(2), !f.extended), requestBytes(asking(2, 0, 0, 0), !f.extended), optionBytes(3), simpleBytes(0, 1)}
		for at := range 4 {
			b := f.request(flush(2))
			b[at] ^= 1
			wrongs = append(wrongs, b)
		}
		for _, b := range wrongs {
			b = append(b, many(max(0, 32-len(b)))...)
			play(t, f.name, then(f.waiting(flush(1)),
				fromClient(b, wrongClient()),
				fromClient(f.request(flush(3))),
				fromServer(f.well(1, 0), f.wellDone(1)),
				fromServer([]byte{0x67}, wrongServer()),
			), nil, api.Tally{Options: f.options(), Requests: 1, Answered: 1})
		}
	}
}

// P22.4: the cookie of an outstanding request makes the client wrong, and nothing more of the server is looked at, though it is not wrong.
func TestCookiesThatAreOutstanding(t *testing.T) {
	for _, f := range forms() {
		for _, cookie := range []uint64{0, 1, max64} {
			play(t, f.name, then(f.waiting(flush(7), flush(cookie)),
				fromServer(f.well(7, 0)[:15]), // held, and never looked at
				fromClient(f.request(read(cookie, 0, 5)), wrongClient()),
				fromServer(f.well(7, 0)[15:]),
				fromServer(lay(f.well(7, 0), f.well(cookie, 0), many(50))),
				fromClient(f.request(flush(8))),
			), []int{1, 2}, api.Tally{Options: f.options(), Requests: 2})
		}
		// Of a write that is wrong nothing is counted.
		play(t, f.name, then(f.waiting(flush(7)), fromClient(f.request(paid(write(7, 0), 1, 2, 3)), wrongClient())), []int{1}, api.Tally{Options: f.options(), Requests: 1})
	}
}

// P22.4: a cookie that is outstanding no more may come again.
func TestCookiesThatComeAgain(t *testing.T) {
	for _, f := range forms() {
		steps := f.working()
		for n := 1; n <= 3; n++ {
			steps = then(steps,
				fromClient(f.request(flush(7)), request(n, flush(7), 0)),
				fromServer(f.well(7, 0), f.wellDone(n)))
		}
		play(t, f.name, then(steps, fromClient(f.request(flush(7)), request(4, flush(7), 0))), []int{4}, api.Tally{Options: f.options(), Requests: 4, Answered: 3})
	}
	// The data of the last answer need not have passed.
	q := read(7, 0, 100)
	play(t, "data are still to come", then(plainly.waiting(q),
		fromServer(lay(simpleBytes(0, 7), many(40)), answer(1, 0, 100)),
		fromClient(plainly.request(q), request(2, q, 0)),
		fromServer(lay(many(60), simpleBytes(5, 7)), answer(2, 5, 0)),
	), nil, api.Tally{Options: 1, Requests: 2, Answered: 2, Failed: 1, Read: 100})
	// It is outstanding as long as a chunk was not the last.
	play(t, "not the last", then(inChunks.waiting(q),
		fromServer(inChunks.chunk(0, 1, 7, 0, 20), chunk(1, 1, 20)),
		fromClient(inChunks.request(q), wrongClient()),
	), []int{1}, api.Tally{Options: 2, Requests: 1, Read: 12})
}

// P22.4: a DISC has no number, is not outstanding, may have any cookie, and is the last thing that is looked at; its payload is counted, and what was asked ahead is still answered.
func TestDisc(t *testing.T) {
	for _, f := range forms() {
		for _, cookie := range []uint64{0, 5, 9} {
			q := asking(2, cookie, 77, 88, 1)
			play(t, f.name, then(f.waiting(flush(5)),
				fromClient(lay(f.request(q), f.request(flush(6)), many(100)), request(0, q, 0)),
				fromClient(lay(many(200), f.request(flush(6)))),
				fromServer(f.well(5, 0), f.wellDone(1)),
				fromServer([]byte{1}, wrongServer()),
			), nil, api.Tally{Options: f.options(), Requests: 1, Answered: 1})
		}
		// A payload that an extended one has, and a plain one has not.
		q := paid(asking(2, 5, 0, 0), many(20)...)
		var size uint64
		if f.extended {
			size = 20
		}
		play(t, f.name+" with a payload", then(f.waiting(flush(5)),
			fromClient(lay(f.request(q), f.request(flush(6))), request(0, q, size)),
			fromClient(f.request(flush(6))),
		), []int{1}, api.Tally{Options: f.options(), Requests: 1, Written: size})
		// One with another magic is none.
		play(t, f.name+" with another magic", then(f.working(), fromClient(lay(requestBytes(q, !f.extended), many(20)), wrongClient())), nil, api.Tally{Options: f.options()})
		// One alone: nothing is awaited behind it.
		play(t, f.name+" alone", then(f.working(), fromClient(f.request(asking(2, 1, 0, 0)), request(0, asking(2, 1, 0, 0), 0)), fromServer([]byte{1}, wrongServer())), nil, api.Tally{Options: f.options()})
	}
}

// P22.4: numbers go on behind all that was answered, and a DISC takes none.
func TestNumbers(t *testing.T) {
	x := newTap(t, "many requests")
	for _, s := range plainly.working() {
		x.pass(s.server, s.b)
	}
	for n := 1; n <= 300; n++ {
		q := flush(uint64(n % 7))
		wantRecords(t, x.what, x.pass(false, plainly.request(q)), []api.Record{request(n, q, 0)})
		if n >= 7 {
			wantRecords(t, x.what, x.pass(true, simpleBytes(0, uint64((n-6)%7))), []api.Record{answer(n-6, 0, 0)})
		}
	}
	wantRecords(t, x.what, x.pass(false, plainly.request(asking(2, 0, 0, 0))), []api.Record{request(0, asking(2, 0, 0, 0), 0)})
	wantList(t, "Open", x.x.Open(), []int{295, 296, 297, 298, 299, 300})
}
