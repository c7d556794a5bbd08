package trace_test

import (
	"fmt"
	"testing"

	"spindle/api"
)

// P22.5: the greeting, with the flags that may be.
func TestGreeting(t *testing.T) {
	for _, f := range []uint16{1, 3} {
		play(t, fmt.Sprint("flags ", f), []step{fromServer(greetingBytes(f), greeting(uint32(f)))}, nil, api.Tally{})
	}
	wrongs := []uint16{0, 2, max16}
	for bit := 2; bit < 16; bit++ {
		wrongs = append(wrongs, 1<<bit, 1|1<<bit, 3|1<<bit)
	}
	for _, f := range wrongs {
		play(t, fmt.Sprint("flags ", f), []step{
			fromServer(greetingBytes(f), wrongServer()),
			fromServer(greetingBytes(3)),
			fromClient(lay(flagBytes(3), optionBytes(3)), flags(3), option(3, 0)), // the client is none the worse for it
			fromServer(ackBytes(3)),
			fromClient(optionBytes(8), option(8, 0)),
		}, nil, api.Tally{Options: 2})
	}
}

// P22.5: another magic, at each byte of the two; it is seen when the greeting is whole, not earlier.
func TestGreetingMagic(t *testing.T) {
	for at := range 16 {
		b := greetingBytes(3)
		b[at] ^= 1
		play(t, fmt.Sprint("byte ", at), []step{fromServer(b[:17]), fromServer(b[17:], wrongServer()), fromServer(greetingBytes(3))}, nil, api.Tally{})
	}
	play(t, "flags", []step{fromServer(greetingBytes(0)[:17]), fromServer([]byte{0}, wrongServer())}, nil, api.Tally{})
}

// P22.5: a byte behind the greeting, ahead of the client's flags, is awaited by nobody.
func TestAheadOfTheClientsFlags(t *testing.T) {
	for _, b := range [][]byte{{0}, ackBytes(3), greetingBytes(3)} {
		play(t, "in one with the greeting", []step{fromServer(lay(greetingBytes(3), b), greeting(3), wrongServer()), fromClient(flagBytes(3), flags(3))}, nil, api.Tally{})
		play(t, "behind it", []step{fromServer(greetingBytes(3), greeting(3)), fromServer(b, wrongServer())}, nil, api.Tally{})
		play(t, "behind a part of the flags", []step{fromServer(greetingBytes(3), greeting(3)), fromClient([]byte{0, 0, 0}), fromServer(b, wrongServer()), fromClient([]byte{3}, flags(3))}, nil, api.Tally{})
		play(t, "behind wrong flags", []step{fromServer(greetingBytes(3), greeting(3)), fromClient(flagBytes(4), wrongClient()), fromServer(b, wrongServer())}, nil, api.Tally{})
	}
	// The greeting itself may come at any time.
	play(t, "a late greeting", []step{
		fromClient(lay(flagBytes(3), optionBytes(3)), flags(3), option(3, 0)),
		fromServer(lay(greetingBytes(3), ackBytes(3)), greeting(3), ack(3)),
	}, nil, api.Tally{Options: 1})
	play(t, "a greeting to a wrong client", []step{fromClient(flagBytes(4), wrongClient()), fromServer(greetingBytes(3), greeting(3)), fromServer([]byte{0}, wrongServer())}, nil, api.Tally{})
}

// P22.5: a byte while no option is outstanding makes the server wrong at once, whatever it is the beginning of.
func TestNoOptionOutstanding(t *testing.T) {
	for f := range uint32(4) {
		play(t, "behind the flags", then(greeted(f), fromServer(ackBytes(3)[:1], wrongServer())), nil, api.Tally{})
	}
	play(t, "behind a part of an option", then(greeted(3), fromClient(optionBytes(3)[:15]), fromServer(ackBytes(3)[:1], wrongServer()), fromClient([]byte{0}, option(3, 0))), nil, api.Tally{Options: 1})
	play(t, "behind the last answer", then(greeted(3), fromClient(optionBytes(3), option(3, 0)), fromServer(lay(ackBytes(3), ackBytes(3)[:1]), ack(3), wrongServer())), nil, api.Tally{Options: 1})
	play(t, "behind the data of the last answer", then(greeted(3),
		fromClient(optionBytes(3), option(3, 0)),
		fromServer(replyHead(3, api.RepTooBig, 5), last(reply(3, api.RepTooBig, 5))),
		fromServer(many(5)), // these are no bytes that are held
		fromServer([]byte{0}, wrongServer()),
	), nil, api.Tally{Options: 1})
}

// P22.5: a byte while no request is outstanding, likewise.
func TestNoRequestOutstanding(t *testing.T) {
	for _, f := range forms() {
		first := f.well(1, 0)[:1]
		play(t, f.name+": none yet", then(f.working(), fromServer(first, wrongServer()), fromClient(f.request(flush(1)), request(1, flush(1), 0))), []int{1}, api.Tally{Options: f.options(), Requests: 1})
		play(t, f.name+": a part of one", then(f.working(), fromClient(f.request(flush(1))[:27]), fromServer(first, wrongServer())), nil, api.Tally{Options: f.options()})
		play(t, f.name+": no more", then(f.waiting(flush(1)), fromServer(lay(f.well(1, 0), first), f.wellDone(1), wrongServer())), nil, api.Tally{Options: f.options(), Requests: 1, Answered: 1})
		play(t, f.name+": in one with GO's answer", then(f.agreeing(), fromClient(optionBytes(7), option(7, 0)), fromServer(lay(ackBytes(7), first), ack(7), wrongServer())), nil, api.Tally{Options: f.options()})
	}
	play(t, "behind the data of a read", then(plainly.waiting(read(1, 0, 5)),
		fromServer(simpleBytes(0, 1), answer(1, 0, 5)),
		fromServer(many(5)),
		fromServer([]byte{0x67}, wrongServer()),
	), nil, api.Tally{Options: 1, Requests: 1, Answered: 1, Read: 5})
	play(t, "behind the answer to EXPORT_NAME", then(greeted(0),
		fromClient(optionBytes(1), option(1, 0)),
		fromServer(lay(exportBytes(9, 1, true), []byte{0}), export(9, 1), wrongServer()),
	), nil, api.Tally{Options: 1})
}
