package trace_test

import (
	"slices"
	"testing"

	"spindle/api"
)

// talk is a whole conversation in a form: options of several kinds, refused and acknowledged, requests with payloads, answers of all kinds in any order, a DISC.
func (f form) talk() ([]step, []int, api.Tally) {
	r, w, s := read(0x1111, 7, 30), paid(write(0x2222, 9), many(25)...), asking(7, 0x3333, 0, 64)
	steps := then(f.agreeing(),
		fromClient(lay(optionBytes(3), optionBytes(77, many(40)...), optionBytes(7, many(9)...), optionBytes(9), optionBytes(7), f.request(r), f.request(w)), option(3, 0), option(77, 40), option(7, 9)),
		fromServer(lay(replyBytes(3, 2, many(9)...), ackBytes(3), replyBytes(77, api.RepUnsup, many(3)...), replyBytes(7, 3, many(12)...), replyBytes(7, api.RepBlockSize)),
			reply(3, 2, 9), ack(3), last(reply(77, api.RepUnsup, 3)), reply(7, 3, 12), last(reply(7, api.RepBlockSize, 0)), option(9, 0), option(7, 0)),
		fromServer(lay(replyBytes(9, 4, many(8)...), ackBytes(9), ackBytes(7)), reply(9, 4, 8), ack(9), ack(7), request(1, r, 0), request(2, w, 25)),
		fromClient(lay(f.request(s), f.request(flush(4)), f.request(asking(2, 0x1111, 3, 0)), many(50)), request(3, s, 0), request(4, flush(4), 0), request(0, asking(2, 0x1111, 3, 0), 0)),
	)
	c := api.Tally{Options: f.options() + 4, Requests: 4, Answered: 3, Failed: 1, Written: 25, Read: 30}
	if !f.chunks {
		return then(steps, fromServer(lay(simpleBytes(0, 0x2222), simpleBytes(0, 0x1111, many(30)...), simpleBytes(22, 0x3333), simpleBytes(0, 4)[:9]), answer(2, 0, 0), answer(1, 0, 30), answer(3, 22, 0))), []int{4}, c
	}
	k := f.statusKind()
	c.Read = 11
	return then(steps, fromServer(lay(f.chunk(0, 2, 0x1111, 7, 12), f.chunk(0, k, 0x3333, 0, 24), f.chunk(0, 1, 0x1111, 7, 19), f.chunk(1, 32770, 0x3333, 0, 20), f.well(0x2222, 9), f.chunk(1, 0, 0x1111, 7, 0), f.well(4, 0)[:9]),
		chunk(1, 2, 12), chunk(3, uint32(k), 24), chunk(1, 1, 19), last(chunk(3, 32770, 20)), f.wellDone(2), last(chunk(1, 0, 0)))), []int{4}, c
}

// P22.10: into how many Passes the bytes of a side are divided is not seen: a whole conversation, every step cut at every place.
func TestPieces(t *testing.T) {
	for _, f := range forms() {
		steps, open, tally := f.talk()
		playFrom(t, f.name, 0, steps, open, tally)
	}
}

// P22.10: all that a client says may pass ahead of all that is said to it: of each side the same is told, in the same order.
func TestAllOfTheClientFirst(t *testing.T) {
	for _, f := range forms() {
		steps, open, tally := f.talk()
		var said [2][]byte
		var wanted [2][]api.Record
		for _, s := range steps {
			side := ofClient
			if s.server {
				side = ofServer
			}
			said[side] = append(said[side], s.b...)
			for _, r := range s.wanted {
				side = ofClient
				if r.Server {
					side = ofServer
				}
				wanted[side] = append(wanted[side], r)
			}
		}
		d := dice(1)
		for run := range 20 {
			x := newTap(t, f.name)
			var told []api.Record
			if run > 0 {
				for side, server := range []bool{false, true} {
					for _, b := range thrownPieces(&d, said[side]) {
						told = append(told, x.pass(server, b)...)
					}
				}
			} else {
				told = append(x.pass(false, said[ofClient]), x.pass(true, said[ofServer])...)
			}
			var got [2][]api.Record
			for _, r := range told {
				side := ofClient
				if r.Server {
					side = ofServer
				}
				got[side] = append(got[side], r)
			}
			wantRecords(t, f.name+": the client", got[ofClient], wanted[ofClient])
			wantRecords(t, f.name+": the server", got[ofServer], wanted[ofServer])
			wantList(t, f.name+": Open", x.x.Open(), open)
			want(t, f.name+": Count", x.x.Count(), tally)
		}
	}
}

// thrownPieces cuts bytes anywhere.
func thrownPieces(d *dice, b []byte) [][]byte {
	var out [][]byte
	for len(b) > 0 {
		n := min(len(b), pick(d, 0, 1, 2, 4, 15, 16, 17, 20, 28, 32, 60, 1+d.below(200)))
		out = append(out, slices.Clone(b[:n]))
		b = b[n:]
	}
	return out
}
