package client_test

import (
	"fmt"
	"testing"

	"spindle/api"
	"spindle/client"
)

// A cutter cuts a row of bytes into pieces.
type cutter func(b []byte) [][]byte

func inOne(b []byte) [][]byte { return [][]byte{b} }

func byteByByte(b []byte) [][]byte {
	var out [][]byte
	for i := range b {
		out = append(out, b[i:i+1])
	}
	return out
}

// thrownPieces cuts into pieces of thrown lengths, some of them empty.
func thrownPieces(d *dice) cutter {
	return func(b []byte) [][]byte {
		var out [][]byte
		for len(b) > 0 {
			n := min(len(b), pick(d, 0, 1, 2, 3, 16, 20, d.below(60), d.below(len(b)+1)))
			out = append(out, b[:n])
			b = b[n:]
		}
		return out
	}
}

// played plays a script on a new client: all bytes between two askings are cut anew. It answers what was heard behind each asking, in words.
func played(script []act, cut cutter) []string {
	c := client.New()
	var out []string
	for i := 0; i <= len(script); i++ {
		var said []byte
		for i < len(script) && script[i].ask == nil {
			said = append(said, script[i].said...)
			i++
		}
		var heard []api.Event
		for _, b := range cut(said) {
			heard = append(heard, c.In(b)...)
		}
		out = append(out, told(heard)+told(c.Phase())+told(listed(c)))
		if i < len(script) {
			script[i].ask(c)
		}
	}
	return out
}

// P16.8: the events do not hang on the pieces: scripts of askings and bytes, in one piece, byte by byte, in any pieces.
func TestPieces(t *testing.T) {
	d := dice(18)
	broken := 0
	for r := range 1500 {
		x := newPair(t)
		x.what = fmt.Sprint("run ", r)
		var script []act
		do := func(a act) { script = append(script, a) }
		begin(x, pick(&d, forms()...), do)
		var said []byte
		for range 10 + d.below(100) {
			var a act
			said, a, _ = x.step(&d, said)
			do(a)
		}
		if x.p.phase == api.ClientBroken {
			broken++
		}
		wanted := played(script, inOne)
		for name, cut := range map[string]cutter{"byte by byte": byteByByte, "some": thrownPieces(&d), "others": thrownPieces(&d)} {
			got := played(script, cut)
			for i := range wanted {
				want(t, fmt.Sprintf("%s, %s, row %d", x.what, name, i), got[i], wanted[i])
			}
		}
		if t.Failed() {
			return
		}
	}
	if broken < 100 || broken > 1400 {
		t.Errorf("%d clients have broken", broken)
	}
}

// begin leads a pair to the transmission, and tells by which acts.
func begin(x *pair, f form, do func(act)) {
	x.begin(f)
	says := func(b []byte) { do(act{said: b}) }
	asks := func(ask func(c *client.Client)) { do(act{ask: ask}) }
	option := func(code uint32, b ...byte) {
		asks(func(c *client.Client) { c.Option(code, nil) })
		says(b)
		says(ackBytes(code))
	}
	says(greetingBytes(3))
	asks(func(c *client.Client) { c.Flags(3) })
	if f.chunks && !f.extended {
		option(8)
	}
	if f.extended {
		option(11)
	}
	if len(f.contexts) > 0 {
		var b []byte
		for _, id := range f.contexts {
			b = append(b, replyBytes(10, 4, metaBody(id, "x")...)...)
		}
		option(10, b...)
	}
	option(7, replyBytes(7, 3, exportBody(4096, 1)...)...)
}

// conversation is what a server says to requests that were all asked ahead, with every kind of answer.
func conversation(f form) ([]api.Request, []byte) {
	var list []api.Request
	var said []byte
	for i := range uint64(12) {
		cookie := i + 1
		q := read(i, 40)
		end := f.chunk(1, 0, cookie, i)
		var b []byte
		switch {
		case i%4 == 0 && f.chunks:
			b = lay(f.chunk(0, 1, cookie, i, dataBody(i+10, many(20)...)...), f.chunk(0, 2, cookie, i, holeBody(i, 10)...), f.chunk(1, 1, cookie, i, dataBody(i+30, many(10)...)...))
		case i%4 == 0:
			b = simpleBytes(0, cookie, many(40)...)
		case i%4 == 1 && f.chunks:
			b = lay(f.chunk(0, 32770, cookie, i, errorAtBody(5, "why", i)...), end)
		case i%4 == 1:
			b = simpleBytes(5, cookie)
		case i%4 == 2 && f.chunks:
			q = status(i, 40)
			b = lay(f.chunk(0, f.statusKind(), cookie, i, statusBody(f.extended, 7, run{30, 1}, run{10, 0})...), f.chunk(1, f.statusKind(), cookie, i, statusBody(f.extended, 1, run{40, 3})...))
		default:
			q = asking(api.CmdTrim, i, 40)
			if b = end; !f.extended {
				b = simpleBytes(0, cookie)
			}
		}
		list, said = append(list, q), append(said, b...)
	}
	return list, said
}

// P16.8: every cut of a conversation into two pieces, and every one into pieces of one length.
func TestEveryCut(t *testing.T) {
	for _, f := range forms() {
		list, said := conversation(f)
		begin := func() *client.Client {
			c := working(t, f)
			for _, q := range list {
				mustRequest(t, c, q)
			}
			return c
		}
		wanted := begin().In(said)
		want(t, "events", len(wanted), 12)
		for n := 1; n < len(said); n++ {
			c := begin()
			wantEvents(t, fmt.Sprintf("%s, cut at %d", f.name, n), append(c.In(said[:n]), c.In(said[n:])...), wanted...)
			c = begin()
			var heard []api.Event
			for b := said; len(b) > 0; b = b[min(n, len(b)):] {
				heard = append(heard, c.In(b[:min(n, len(b))])...)
			}
			wantEvents(t, fmt.Sprintf("%s, pieces of %d", f.name, n), heard, wanted...)
		}
	}
}

// P16.6, P16.8: more bytes at once than an inbox may hold; and long answers byte by byte.
func TestMuchAtOnce(t *testing.T) {
	for _, f := range forms() {
		const size = 700000
		var said []byte
		var wanted []api.Event
		c, slow := working(t, f), working(t, f)
		for i := range uint64(9) {
			for _, c := range []*client.Client{c, slow} {
				mustRequest(t, c, read(i, size+i))
			}
			data := many(size + int(i))
			wanted = append(wanted, done(i+1, 0, data...))
			if f.chunks {
				said = append(said, f.chunk(1, 1, i+1, i, dataBody(i, data...)...)...)
			} else {
				said = append(said, simpleBytes(0, i+1, data...)...)
			}
		}
		wantEvents(t, f.name, c.In(said), wanted...)
		var heard []api.Event
		for i := range size + 100 {
			heard = append(heard, slow.In(said[i:i+1])...)
		}
		wantEvents(t, f.name+", byte by byte", heard, wanted[0])
		wantEvents(t, f.name+", the rest", slow.In(said[size+100:]), wanted[1:]...)
	}
}
