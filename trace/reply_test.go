package trace_test

import (
	"fmt"
	"testing"

	"spindle/api"
)

// P22.6: the answer to EXPORT_NAME, of 10 bytes or of 134, by the client's flags alone.
func TestExportName(t *testing.T) {
	for _, greets := range []uint16{1, 3} {
		for f := range uint32(4) {
			zeroes := f&2 == 0
			for _, size := range []uint64{0, 4096, max64} {
				steps := []step{
					fromServer(greetingBytes(greets), greeting(uint32(greets))),
					fromClient(lay(f, optionBytes(1, many(3)...)), flags(f), option(1, 3)),
				}
				b := exportBytes(size, 0xfedc, zeroes)
				want(t, "its size", len(b), map[bool]int{true: 134, false: 10}[zeroes])
				play(t, "EXPORT_NAME", then(steps, fromServer(b[:len(b)-1]), fromServer(b[len(b)-1:], export(size, 0xfedc))), nil, api.Tally{Options: 1})
			}
		}
	}
}

// P22.6: a byte of the zeros that is not 0: the server is wrong, seen when all are held; the transmission does not begin.
func TestExportNameZeros(t *testing.T) {
	for _, at := range []int{10, 11, 71, 132, 133} {
		b := exportBytes(4096, 1, true)
		b[at] = 1
		play(t, fmt.Sprint("byte ", at), then(greeted(1),
			fromClient(lay(optionBytes(1), requestBytes(flush(1), false)), option(1, 0)),
			fromServer(b[:133]),
			fromServer(b[133:], wrongServer()),
			fromServer(exportBytes(4096, 1, true)),
			fromClient(requestBytes(flush(2), false)),
		), nil, api.Tally{Options: 1})
	}
}

// P22.6: no answer of the other options' form is known to EXPORT_NAME: its first ten bytes are a size and flags.
func TestExportNameIsAnsweredByAnything(t *testing.T) {
	b := ackBytes(1)
	play(t, "an acknowledgement", then(greeted(3),
		fromClient(lay(optionBytes(1), requestBytes(flush(1), false)), option(1, 0)),
		fromServer(b[:10], export(at64(b, 0), uint32(at16(b, 8))), request(1, flush(1), 0)),
		fromServer(b[10:], wrongServer()),
	), []int{1}, api.Tally{Options: 1, Requests: 1})
}

// belongs tells at which options the kinds of answers stand that are not the last one.
func belongs(kind, code uint32) bool {
	switch kind {
	case api.RepServer:
		return code == api.OptList
	case api.RepInfo:
		return code == api.OptInfo || code == api.OptGo
	case api.RepMeta:
		return code == api.OptListMeta || code == api.OptSetMeta
	}
	return false
}

// P22.6: each kind of answer at each option.
func TestKindsOfAnswers(t *testing.T) {
	for _, code := range []uint32{0, 2, 3, 4, 5, 6, 7, 8, 9, 10, 11, 12, 77, 1<<31 + 7, max32} {
		for _, kind := range []uint32{0, 1, 2, 3, 4, 5, 6, 77, 1<<31 - 1, 1 << 31, 1<<31 + 1, 1<<31 + 2, 1<<31 + 6, 1<<31 + 10, 1<<31 + 77, max32} {
			for _, n := range []int{0, 5} {
				what := fmt.Sprintf("%d of option %d, %d bytes", kind, code, n)
				steps := then(greeted(3), fromClient(optionBytes(code), option(code, 0)))
				b := replyBytes(code, kind, many(n)...)
				switch {
				case kind == 1 || kind >= 1<<31:
					steps = then(steps, fromServer(b, last(reply(code, kind, uint64(n)))), fromServer([]byte{0}, wrongServer()))
				case belongs(kind, code):
					steps = then(steps, fromServer(lay(b, b, ackBytes(code)), reply(code, kind, uint64(n)), reply(code, kind, uint64(n)), ack(code)), fromServer([]byte{0}, wrongServer()))
				default:
					steps = then(steps, fromServer(b[:20], wrongServer()), fromServer(lay(b[20:], ackBytes(code))))
				}
				play(t, what, steps, nil, api.Tally{Options: 1})
			}
		}
	}
}

// P22.6: another magic, at each byte of it; seen when the head is whole.
func TestReplyMagic(t *testing.T) {
	for at := range 8 {
		b := ackBytes(3)
		b[at] ^= 1
		play(t, fmt.Sprint("byte ", at), then(greeted(3),
			fromClient(optionBytes(3), option(3, 0)),
			fromServer(b[:19]),
			fromServer(b[19:], wrongServer()),
			fromServer(ackBytes(3)),
			fromClient(optionBytes(8), option(8, 0)),
		), nil, api.Tally{Options: 2})
	}
	play(t, "answers to requests", then(greeted(3), fromClient(optionBytes(3), option(3, 0)), fromServer(lay(simpleBytes(0, 1), many(4)), wrongServer())), nil, api.Tally{Options: 1})
}

// P22.6: the code is that of the first outstanding option, and no other's, though that one is outstanding, too.
func TestAnothersCode(t *testing.T) {
	for _, code := range []uint32{0, 2, 8, 9, 77, 3 | 1<<31} {
		for _, kind := range []uint32{1, 2, api.RepUnsup} {
			play(t, fmt.Sprint("code ", code), then(greeted(3),
				fromClient(lay(optionBytes(3), optionBytes(8), optionBytes(9)), option(3, 0), option(8, 0), option(9, 0)),
				fromServer(replyBytes(code, kind), wrongServer()),
				fromServer(ackBytes(3)),
			), nil, api.Tally{Options: 3})
		}
	}
}

// P22.6: several outstanding options are answered in their order.
func TestSeveralOptions(t *testing.T) {
	said := lay(optionBytes(3), optionBytes(6, 1, 2), optionBytes(6), optionBytes(10), optionBytes(77), optionBytes(3), optionBytes(9))
	play(t, "in order", then(greeted(3),
		fromClient(said, option(3, 0), option(6, 2), option(6, 0), option(10, 0), option(77, 0), option(3, 0), option(9, 0)),
		fromServer(lay(replyBytes(3, 2, 1, 2, 3), replyBytes(3, 2), ackBytes(3)), reply(3, 2, 3), reply(3, 2, 0), ack(3)),
		fromServer(replyBytes(6, api.RepUnknown), last(reply(6, api.RepUnknown, 0))),
		fromServer(lay(replyBytes(6, 3, 9), ackBytes(6), replyBytes(10, 4, 9)), reply(6, 3, 1), ack(6), reply(10, 4, 1)),
		fromServer(lay(ackBytes(10), replyBytes(77, api.RepUnsup, many(30)...), ackBytes(3)), ack(10), last(reply(77, api.RepUnsup, 30)), ack(3)),
		fromServer(lay(ackBytes(9), []byte{0}), ack(9), wrongServer()),
	), nil, api.Tally{Options: 7})
}

// P22.6: data of answers are passed over, however many, in one Pass and in many, and may look like answers; the next head stands right behind them.
func TestDataOfReplies(t *testing.T) {
	inner := lay(ackBytes(3), ackBytes(3))
	steps := then(greeted(3), fromClient(lay(optionBytes(3), optionBytes(8)), option(3, 0), option(8, 0)))
	play(t, "in one", then(steps, fromServer(lay(replyBytes(3, 2, inner...), ackBytes(3), ackBytes(8)), reply(3, 2, 40), ack(3), ack(8))), nil, api.Tally{Options: 2})
	pieces := then(steps, fromServer(replyHead(3, 2, 40), reply(3, 2, 40)))
	for _, b := range inner {
		pieces = then(pieces, fromServer([]byte{b}))
	}
	play(t, "in many", then(pieces, fromServer(lay(ackBytes(3), ackBytes(8)), ack(3), ack(8))), nil, api.Tally{Options: 2})
	play(t, "beyond what ever comes", then(steps,
		fromServer(lay(replyHead(3, 1, max32), ackBytes(8)), last(reply(3, 1, max32))),
		fromServer(lay(ackBytes(8), many(100))),
	), nil, api.Tally{Options: 2})
	play(t, "of GO's acknowledgement", then(greeted(3),
		fromClient(optionBytes(7), option(7, 0)),
		fromServer(lay(replyHead(7, 1, 8), many(3)), last(reply(7, 1, 8))),
		fromClient(requestBytes(flush(1), false), request(1, flush(1), 0)), // the transmission has begun though they have not passed
		fromServer(lay(many(5), simpleBytes(0, 1)), answer(1, 0, 0)),
	), nil, api.Tally{Options: 1, Requests: 1, Answered: 1})
}

// P22.6: heads are seen with their last byte.
func TestReplyHeads(t *testing.T) {
	for n := range 20 {
		x := newTap(t, fmt.Sprint(n, " bytes"))
		for _, s := range then(greeted(3), fromClient(optionBytes(3), option(3, 0))) {
			x.pass(s.server, s.b)
		}
		wantRecords(t, x.what, x.pass(true, ackBytes(3)[:n]), nil)
		wantRecords(t, x.what, x.pass(true, many(19-n)), nil) // what is wrong is none as long as the head is not whole
	}
}

// Words: chunks and extended headers are agreed upon by an acknowledgement, not by the asking and not by a refusal.
func TestAgreeing(t *testing.T) {
	steps := greeted(3)
	for _, code := range []uint32{8, 11} {
		steps = then(steps, fromClient(optionBytes(code), option(code, 0)), fromServer(replyBytes(code, api.RepUnsup), last(reply(code, api.RepUnsup, 0))))
	}
	steps = then(steps, fromClient(optionBytes(7), option(7, 0)), fromServer(ackBytes(7), ack(7)), fromClient(requestBytes(read(1, 0, 2), false), request(1, read(1, 0, 2), 0)))
	play(t, "refused", then(steps, fromServer(simpleBytes(0, 1, 1, 2), answer(1, 0, 2))), nil, api.Tally{Options: 3, Requests: 1, Answered: 1, Read: 2})
	play(t, "refused", then(steps, fromServer(chunkHead(false, 1, 1, 1, 0, 10), wrongServer())), []int{1}, api.Tally{Options: 3, Requests: 1})

	// What was agreed upon stays so: a later refusal takes nothing back, and OptExtended holds behind OptStructured and ahead of it.
	for _, order := range [][]uint32{{8, 11}, {11, 8}} {
		steps := greeted(3)
		for _, code := range order {
			steps = then(steps, fromClient(lay(optionBytes(code), optionBytes(code)), option(code, 0), option(code, 0)), fromServer(lay(ackBytes(code), replyBytes(code, api.RepInvalid)), ack(code), last(reply(code, api.RepInvalid, 0))))
		}
		steps = then(steps, fromClient(optionBytes(7), option(7, 0)), fromServer(ackBytes(7), ack(7)), fromClient(requestBytes(read(1, 5, 2), true), request(1, read(1, 5, 2), 0)))
		play(t, fmt.Sprint(order), then(steps, fromServer(extended.chunk(1, 1, 1, 5, 10), last(chunk(1, 1, 10)))), nil, api.Tally{Options: 5, Requests: 1, Answered: 1, Read: 2})
	}
	// Other options agree upon nothing.
	steps = greeted(3)
	for _, code := range []uint32{0, 3, 5, 6, 9, 10, 12, 1<<31 + 8, 1<<31 + 11} {
		steps = then(steps, fromClient(optionBytes(code), option(code, 0)), fromServer(ackBytes(code), ack(code)))
	}
	steps = then(steps, fromClient(optionBytes(7), option(7, 0)), fromServer(ackBytes(7), ack(7)), fromClient(requestBytes(read(1, 0, 2), false), request(1, read(1, 0, 2), 0)))
	play(t, "others", then(steps, fromServer(simpleBytes(0, 1, 1, 2), answer(1, 0, 2))), nil, api.Tally{Options: 10, Requests: 1, Answered: 1, Read: 2})
}
