package frame_test

import (
	"bytes"
	"encoding/binary"
	"fmt"
	"slices"
	"testing"

	"spindle/api"
	"spindle/frame"
)

// A call is a cut with its arguments. On: with zeroes, extended.
type call struct {
	name string
	most uint32
	on   bool
	n    int
}

func (c call) of(x *frame.Inbox) (any, api.Cut) {
	switch c.name {
	case "Greeting":
		return two(x.Greeting())
	case "Flags":
		return two(x.Flags())
	case "Option":
		return two(x.Option(c.most))
	case "OptionReply":
		return two(x.OptionReply(c.most))
	case "ExportReply":
		return two(x.ExportReply(c.on))
	case "Request":
		return two(x.Request(c.most, c.on))
	case "Reply":
		return two(x.Reply(c.most, c.on))
	}
	return two(x.Data(c.n))
}

func (c call) zero() any {
	m, _ := c.of(nil)
	return m
}

// plain is an inbox that does what the chapters say in the plainest way, byte by byte, without a decoder of the program.
type plain struct {
	room int
	held []byte
	over int
}

func (p *plain) feed(b []byte) int {
	for n, v := range b {
		switch {
		case p.over > 0:
			p.over--
		case len(p.held) < p.room:
			p.held = append(p.held, v)
		default:
			return n
		}
	}
	return len(b)
}

func (p *plain) cut(c call) (any, api.Cut) {
	if p.over > 0 {
		return c.zero(), api.CutMore
	}
	m, n, cut := read(c, p.held)
	if cut != api.CutDone {
		return c.zero(), cut
	}
	p.held = p.held[n:]
	if o, ok := m.(api.Option); ok && o.Long {
		for p.over = int(o.Len); p.over > 0 && len(p.held) > 0; p.over-- {
			p.held = p.held[1:]
		}
	}
	return m, cut
}

func u16(b []byte) uint16 { return binary.BigEndian.Uint16(b) }
func u32(b []byte) uint32 { return binary.BigEndian.Uint32(b) }
func u64(b []byte) uint64 { return binary.BigEndian.Uint64(b) }

// read reads a message by the tables of chapter 8: what it is, and how many bytes it has.
func read(c call, b []byte) (any, int, api.Cut) {
	switch c.name {
	case "Greeting":
		if cut := headed(b, 18, "NBDMAGICIHAVEOPT"); cut != api.CutDone {
			return nil, 0, cut
		}
		return api.Greeting{Flags: u16(b[16:])}, 18, api.CutDone
	case "Flags":
		if len(b) < 4 {
			return nil, 0, api.CutMore
		}
		return u32(b), 4, api.CutDone
	case "Option":
		return readOption(c, b)
	case "OptionReply":
		if cut := headed(b, 20, "\x00\x03\xe8\x89\x04\x55\x65\xa9"); cut != api.CutDone {
			return nil, 0, cut
		}
		data, n, cut := readData(b, 20, uint64(u32(b[16:])), c.most)
		return api.OptionReply{Option: u32(b[8:]), Kind: u32(b[12:]), Data: data}, n, cut
	case "ExportReply":
		return readExport(c, b)
	case "Request":
		return readRequest(c, b)
	case "Reply":
		return readReply(c, b)
	}
	switch {
	case c.n < 0:
		return nil, 0, api.CutBad
	case c.n > len(b):
		return nil, 0, api.CutMore
	}
	return bytes.Clone(b[:c.n]), c.n, api.CutDone
}

// headed looks whether a head is there, and begins with these magics.
func headed(b []byte, size int, magics string) api.Cut {
	switch {
	case len(b) < size:
		return api.CutMore
	case string(b[:len(magics)]) != magics:
		return api.CutBad
	}
	return api.CutDone
}

// readData reads so many bytes behind a head.
func readData(b []byte, head int, length uint64, most uint32) ([]byte, int, api.Cut) {
	switch {
	case length > uint64(most):
		return nil, 0, api.CutLong
	case length > uint64(len(b)-head):
		return nil, 0, api.CutMore
	}
	n := head + int(length)
	return bytes.Clone(b[head:n]), n, api.CutDone
}

func readOption(c call, b []byte) (any, int, api.Cut) {
	if cut := headed(b, 16, "IHAVEOPT"); cut != api.CutDone {
		return nil, 0, cut
	}
	o := api.Option{Code: u32(b[8:]), Len: u32(b[12:])}
	data, n, cut := readData(b, 16, uint64(o.Len), c.most)
	o.Data = data
	if cut == api.CutLong {
		o.Long, n, cut = true, 16, api.CutDone
	}
	return o, n, cut
}

func readExport(c call, b []byte) (any, int, api.Cut) {
	size := 10
	if c.on {
		size = 134
	}
	if len(b) < size {
		return nil, 0, api.CutMore
	}
	for _, v := range b[10:size] {
		if v != 0 {
			return nil, 0, api.CutBad
		}
	}
	return api.ExportReply{Size: u64(b), Flags: u16(b[8:])}, size, api.CutDone
}

func readRequest(c call, b []byte) (any, int, api.Cut) {
	head, magic := 28, "\x25\x60\x95\x13"
	if c.on {
		head, magic = 32, "\x21\xe4\x1c\x71"
	}
	if cut := headed(b, head, magic); cut != api.CutDone {
		return nil, 0, cut
	}
	r := api.Request{Flags: u16(b[4:]), Type: u16(b[6:]), Cookie: u64(b[8:]), Offset: u64(b[16:])}
	paid := r.Type == 1
	if c.on {
		r.Length, paid = u64(b[24:]), r.Flags/32%2 == 1
	} else {
		r.Length = uint64(u32(b[24:]))
	}
	if !paid {
		return r, head, api.CutDone
	}
	data, n, cut := readData(b, head, r.Length, c.most)
	r.Data = data
	return r, n, cut
}

func readReply(c call, b []byte) (any, int, api.Cut) {
	if len(b) < 4 {
		return nil, 0, api.CutMore
	}
	head := headOf(u32(b), c.on)
	switch {
	case head == 0:
		return nil, 0, api.CutBad
	case len(b) < head:
		return nil, 0, api.CutMore
	case u32(b) == magicSimple:
		return api.Reply{Simple: api.SimpleReply{Code: u32(b[4:]), Cookie: u64(b[8:])}}, head, api.CutDone
	}
	chunk := api.Chunk{Flags: u16(b[4:]), Type: u16(b[6:]), Cookie: u64(b[8:])}
	length := uint64(u32(b[16:]))
	if c.on {
		chunk.Off, length = u64(b[16:]), u64(b[24:])
	}
	data, n, cut := readData(b, head, length, c.most)
	chunk.Data = data
	return api.Reply{Structured: true, Chunk: chunk}, n, cut
}

// throwRow throws a row of messages of all kinds, some of them too long, some damaged, with noise between.
func throwRow(d *dice, messages int) []byte {
	all := kinds()
	var row []byte
	for range messages {
		k := pick(d, all...)
		b := bytes.Clone(pick(d, k.samples...).bytes)
		switch d.below(8) {
		case 0:
			b[d.below(k.head)] ^= byte(1 << d.below(8))
		case 1:
			n := d.below(200)
			b = optionBytes(uint32(d.below(12)), uint32(n), many(n))
		case 2:
			b = b[:d.below(len(b))]
		}
		row = append(row, b...)
	}
	return row
}

// throwCall throws a cut, more often than not one that fits what is held.
func throwCall(d *dice, held []byte) call {
	c := call{most: pick[uint32](d, 0, 1, 64, 255, 256, 600, max32), on: d.bool(), n: pick(d, -1, 0, 1, 2, 5, len(held), len(held)+1)}
	c.name = pick(d, "Greeting", "Flags", "Option", "Option", "OptionReply", "ExportReply", "Request", "Reply", "Data")
	if d.below(8) == 0 || len(held) < 4 {
		return c
	}
	switch u32(held) {
	case 0x4e42444d:
		c.name = "Greeting"
	case 0x49484156:
		c.name = "Option"
	case 0x0003e889:
		c.name = "OptionReply"
	case 0x25609513:
		c.name, c.on = "Request", false
	case 0x21e41c71:
		c.name, c.on = "Request", true
	case magicSimple, magicChunk:
		c.name, c.on = "Reply", false
	case magicChunk64:
		c.name, c.on = "Reply", true
	case 0, max32, 0x01234567:
		c.name = "ExportReply"
	default:
		c.name, c.n = "Data", toMagic(held)
	}
	return c
}

// toMagic tells how many bytes stand ahead of the next message, as far as its magic shows it.
func toMagic(held []byte) int {
	for n := 1; n+4 <= len(held); n++ {
		if slices.Contains([]uint32{0x4e42444d, 0x49484156, 0x0003e889, 0x25609513, 0x21e41c71, magicSimple, magicChunk, magicChunk64}, u32(held[n:])) {
			return n
		}
	}
	return len(held)
}

// P9.1 to P9.6: thrown feeds and cuts, held against a plain reading of the chapters.
func TestAgainstPlain(t *testing.T) {
	done := map[string]int{}
	cuts := map[api.Cut]int{}
	for seed := range 1500 {
		d := dice(seed + 1)
		room := pick(&d, 1, 4, 16, 19, 28, 32, 60, 134, 300, 700, 3000)
		x, p := fresh(t, room), &plain{room: room}
		row := throwRow(&d, 20)
		for step := range 200 {
			what := fmt.Sprintf("seed %d, step %d", seed, step)
			if d.below(3) == 0 {
				piece := row[:min(len(row), pick(&d, 0, 1, d.below(20), d.below(300), 5000))]
				n := x.Feed(piece)
				want(t, what+": Feed", n, p.feed(piece))
				row = row[n:]
			} else {
				c := throwCall(&d, p.held)
				m, cut := c.of(x)
				wantM, wantC := p.cut(c)
				wantCut(t, fmt.Sprintf("%s: %+v", what, c), m, cut, wantM, wantC)
				cuts[cut]++
				if cut == api.CutDone {
					done[fmt.Sprint(c.name, c.on)]++
				}
				if p.over > 0 && cut == api.CutDone {
					done["to pass over"]++
				}
			}
			wantStands(t, what, x, room, len(p.held))
			if t.Failed() {
				return
			}
		}
		if p.over == 0 {
			wantHolds(t, fmt.Sprintf("seed %d, the end", seed), x, room, p.held)
		}
	}
	wantThrown(t, done, cuts)
}

// wantThrown looks that the dice threw all there is often enough.
func wantThrown(t *testing.T, done map[string]int, cuts map[api.Cut]int) {
	t.Helper()
	for _, name := range []string{"Greetingtrue", "Flagsfalse", "Optiontrue", "OptionReplyfalse", "ExportReplytrue", "ExportReplyfalse", "Requesttrue", "Requestfalse", "Replytrue", "Replyfalse", "Datafalse", "to pass over"} {
		if done[name] < 50 {
			t.Errorf("%s was done %d times", name, done[name])
		}
	}
	for _, c := range []api.Cut{api.CutMore, api.CutDone, api.CutBad, api.CutLong} {
		if cuts[c] < 500 {
			t.Errorf("cut %d came %d times", c, cuts[c])
		}
	}
}
