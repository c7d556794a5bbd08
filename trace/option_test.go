package trace_test

import (
	"fmt"
	"testing"

	"spindle/api"
)

// P22.3: the client's flags, each bit by itself: two of them may be.
func TestClientFlags(t *testing.T) {
	for f := range uint32(4) {
		play(t, fmt.Sprint("flags ", f), []step{
			fromServer(greetingBytes(3), greeting(3)),
			fromClient(lay(f, optionBytes(3)), flags(f), option(3, 0)),
		}, nil, api.Tally{Options: 1})
	}
	for bit := 2; bit < 32; bit++ {
		for _, f := range []uint32{1 << bit, 3 | 1<<bit} {
			play(t, fmt.Sprint("flags ", f), []step{
				fromServer(greetingBytes(3), greeting(3)),
				fromClient(lay(f, optionBytes(3)), wrongClient()),
				fromClient(lay(uint32(3), optionBytes(3))),
			}, nil, api.Tally{})
		}
	}
	play(t, "all", []step{fromClient(flagBytes(max32), wrongClient())}, nil, api.Tally{})
}

// P22.3: flags and options are seen with their last byte, not earlier, though no greeting came.
func TestClientHeads(t *testing.T) {
	x := newTap(t, "heads")
	wantRecords(t, "three bytes", x.pass(false, flagBytes(3)[:3]), nil)
	wantRecords(t, "the fourth", x.pass(false, flagBytes(3)[3:]), []api.Record{flags(3)})
	for n := range 16 {
		y := newTap(t, fmt.Sprint(n, " bytes of an option"))
		y.pass(false, flagBytes(3))
		wantRecords(t, "not whole", y.pass(false, optionBytes(3)[:n]), nil)
		wantRecords(t, "not whole", y.pass(false, many(15-n)), nil) // another magic is none as long as the head is not whole
	}
}

// P22.3: options with and without data, of every code; the next head stands right behind the data.
func TestOptions(t *testing.T) {
	for _, code := range []uint32{0, 3, 4, 5, 6, 8, 9, 10, 11, 12, 77, 1 << 31, max32} {
		for _, n := range []int{0, 1, 15, 16, 17, 40} {
			what := fmt.Sprintf("option %d with %d bytes", code, n)
			size := uint64(n)
			play(t, what, then(greeted(3),
				fromClient(lay(optionBytes(code, many(n)...), optionBytes(code, many(n)...), optionBytes(3)), option(code, size), option(code, size), option(3, 0)),
			), nil, api.Tally{Options: 3})
			// Data that come later, in many pieces.
			steps := then(greeted(3), fromClient(optionHead(code, uint32(n)), option(code, size)))
			for _, b := range many(n) {
				steps = then(steps, fromClient([]byte{b}))
			}
			play(t, what+", later", then(steps, fromClient(optionBytes(3), option(3, 0))), nil, api.Tally{Options: 2})
		}
	}
}

// P22.3: data may look like options: they are passed over.
func TestDataThatLookLikeOptions(t *testing.T) {
	inner := lay(optionBytes(3), optionBytes(7))
	play(t, "options in an option", then(greeted(3),
		fromClient(lay(optionBytes(6, inner...), optionBytes(8)), option(6, 32), option(8, 0)),
	), nil, api.Tally{Options: 2})
}

// P22.3: an option may say a size beyond what ever comes.
func TestLongOptions(t *testing.T) {
	for _, code := range []uint32{3, 7, 77} {
		x := newTap(t, "a long option")
		x.pass(false, lay(flagBytes(3), optionHead(code, 100000)))
		for n := 100000; n > 0; n -= 3125 {
			wantRecords(t, "its data", x.pass(false, many(3125)), nil)
		}
		wantRecords(t, "the next one, if it may be looked at", x.pass(false, optionBytes(8)), map[bool][]api.Record{true: {option(8, 0)}}[code != 7])

		x = newTap(t, "a longer one than ever comes")
		wantRecords(t, "its head", x.pass(false, lay(flagBytes(3), optionHead(code, max32), optionBytes(3))), []api.Record{flags(3), option(code, max32)})
		wantRecords(t, "more", x.pass(false, lay(optionBytes(3), many(5000))), nil)
	}
}

// P22.3: another magic, at each of its bytes: the client is wrong, and what it says later is not looked at.
func TestOptionMagic(t *testing.T) {
	for at := range 8 {
		for _, bit := range []byte{1, 128} {
			b := optionBytes(3)
			b[at] ^= bit
			play(t, "another magic", then(greeted(3),
				fromClient(lay(optionBytes(8, 1, 2), b), option(8, 2), wrongClient()),
				fromClient(optionBytes(3)),
				fromServer(ackBytes(8), ack(8)), // what was asked is still answered
				fromServer([]byte{0}, wrongServer()),
			), nil, api.Tally{Options: 1})
		}
	}
	play(t, "requests in the negotiation", then(greeted(3), fromClient(requestBytes(read(1, 0, 1), false), wrongClient())), nil, api.Tally{})
}

// P22.3: behind GO and ABORT nothing is looked at until they have their last answer; acknowledged, GO begins the transmission and ABORT ends all; refused, options go on.
func TestBehindGoAndAbort(t *testing.T) {
	data := many(3)
	for _, code := range []uint32{7, 2} {
		for _, kind := range []uint32{api.RepUnsup, api.RepUnknown, 1 << 31, max32} {
			play(t, fmt.Sprintf("option %d refused with %d", code, kind), then(greeted(3),
				fromClient(lay(optionBytes(3), optionBytes(code, data...), optionBytes(8), optionBytes(code), optionBytes(3, data...)), option(3, 0), option(code, 3)),
				fromServer(lay(replyBytes(3, 2, data...), ackBytes(3)), reply(3, 2, 3), ack(3)), // the answer of another option
				fromClient(optionBytes(6)),
				fromServer(replyBytes(code, kind, data...), last(reply(code, kind, 3)), option(8, 0), option(code, 0)),
				fromServer(lay(ackBytes(8), replyBytes(code, kind)), ack(8), last(reply(code, kind, 0)), option(3, 3), option(6, 0)),
			), nil, api.Tally{Options: 6})
		}
	}
	play(t, "GO acknowledged", then(greeted(3),
		fromClient(lay(optionBytes(7, data...), requestBytes(flush(4), false)), option(7, 3)),
		fromServer(replyBytes(7, 3, data...), reply(7, 3, 3)),
		fromServer(ackBytes(7), ack(7), request(1, flush(4), 0)),
		fromClient(requestBytes(flush(5), false), request(2, flush(5), 0)),
	), []int{1, 2}, api.Tally{Options: 1, Requests: 2})
	play(t, "ABORT acknowledged", then(greeted(3),
		fromClient(lay(optionBytes(2, data...), optionBytes(3), requestBytes(flush(4), false)), option(2, 3)),
		fromServer(ackBytes(2), ack(2)),
		fromClient(lay(optionBytes(3), requestBytes(flush(5), false), many(100))),
		fromServer([]byte{0}, wrongServer()),
	), nil, api.Tally{Options: 1})
}

// P22.3: an answer may be seen ahead of the option's data, which pass all the same.
func TestAnsweredAheadOfItsData(t *testing.T) {
	data := many(9)
	play(t, "GO", then(greeted(3),
		fromClient(lay(optionHead(7, 9), data[:4]), option(7, 9)),
		fromServer(ackBytes(7), ack(7)),
		fromClient(lay(data[4:], requestBytes(flush(4), false)), request(1, flush(4), 0)),
		fromServer(simpleBytes(0, 4), answer(1, 0, 0)),
	), nil, api.Tally{Options: 1, Requests: 1, Answered: 1})
	play(t, "GO refused", then(greeted(3),
		fromClient(optionHead(7, 9), option(7, 9)),
		fromServer(replyBytes(7, api.RepUnknown), last(reply(7, api.RepUnknown, 0))),
		fromClient(lay(data, optionBytes(3)), option(3, 0)),
	), nil, api.Tally{Options: 2})
	play(t, "EXPORT_NAME", then(greeted(3),
		fromClient(optionHead(1, 9), option(1, 9)),
		fromServer(exportBytes(7, 1, false), export(7, 1)),
		fromClient(lay(data, requestBytes(flush(4), false)), request(1, flush(4), 0)),
	), []int{1}, api.Tally{Options: 1, Requests: 1})
	play(t, "ABORT", then(greeted(3),
		fromClient(optionHead(2, 9), option(2, 9)),
		fromServer(ackBytes(2), ack(2)),
		fromClient(lay(data, optionBytes(3))),
	), nil, api.Tally{Options: 1})
}

// P22.3: behind EXPORT_NAME nothing is looked at until it is answered; then the transmission has begun.
func TestBehindExportName(t *testing.T) {
	for f := range uint32(4) {
		zeroes := f < 2
		play(t, fmt.Sprint("EXPORT_NAME, flags ", f), then(greeted(f),
			fromClient(lay(optionBytes(3), optionBytes(1, 'a'), requestBytes(read(4, 5, 6), false)), option(3, 0), option(1, 1)),
			fromServer(ackBytes(3), ack(3)),
			fromClient(requestBytes(flush(5), false)),
			fromServer(lay(exportBytes(4096, 0x1234, zeroes), simpleBytes(0, 4, many(6)...)), export(4096, 0x1234), request(1, read(4, 5, 6), 0), request(2, flush(5), 0), answer(1, 0, 6)),
		), []int{2}, api.Tally{Options: 2, Requests: 2, Answered: 1, Read: 6})
	}
}

// P22.3: a client behind an option that will never be answered, since the server is wrong, is not looked at.
func TestBehindAWrongServer(t *testing.T) {
	for _, code := range []uint32{1, 2, 7} {
		play(t, fmt.Sprint("option ", code), []step{
			fromServer(many(18), wrongServer()),
			fromClient(lay(flagBytes(3), optionBytes(3), optionBytes(code, 1), many(40)), flags(3), option(3, 0), option(code, 1)),
			fromServer(lay(greetingBytes(3), ackBytes(3), ackBytes(code))),
			fromClient(optionBytes(3)),
		}, nil, api.Tally{Options: 2})
	}
	for _, code := range []uint32{2, 7} {
		play(t, fmt.Sprint("option ", code, ", wrongly answered"), then(greeted(3),
			fromClient(lay(optionHead(code, 5), many(2)), option(code, 5)),
			fromServer(ackBytes(3), wrongServer()),
			fromClient(lay(many(3), optionBytes(3))),
			fromServer(ackBytes(code)),
			fromClient(lay(optionBytes(3), requestBytes(flush(1), false))),
		), nil, api.Tally{Options: 1})
	}
}
