package reply_test

import (
	"slices"
	"testing"

	"spindle/api"
	"spindle/reply"
)

// thrown throws for a call, mostly for one that fits or is near to one.
func thrown(d *dice) call {
	c := call{s: pick(d, sessions()...)}
	c.r = ask(pick(d, 0, 0, 0, 7, 7, 7, pick(d, eight()...), pick(d, strange()...)), 0, 0)
	c.r.Cookie = pick[uint64](d, 0, 7, cookie, 1<<63, top)
	c.r.Flags = pick[uint16](d, 0, 0, 0, 1, 2, 4, 4, 8, 8, 12, 16, 32, 65535)
	c.r.Length = uint64(d.below(20))
	c.r.Offset = pick(d, 0, 0, 512, 1<<32-5, 1<<40, 1<<63-5, top-c.r.Length+1, top-c.r.Length, top)
	if c.r.Type == api.CmdStatus && d.below(4) == 0 {
		c.r.Length = pick[uint64](d, narrow, narrow+1, 1<<40, 1<<63, top)
	}
	c.o = thrownOutcome(d, c.s, c.r)
	for range pick(d, 0, 0, 1, 1, 2) {
		spoil(d, &c)
	}
	return c
}

// thrownOutcome throws for one that fits, where there is one.
func thrownOutcome(d *dice, s api.Session, r api.Request) api.Outcome {
	var o api.Outcome
	switch {
	case d.below(4) == 0:
		o.Code = pick(d, codes()...)
		if d.bool() && r.Length > 0 && r.Offset+(r.Length-1) >= r.Offset {
			o.Placed, o.At = true, r.Offset+pick(d, 0, r.Length-1, r.Length/2)
		}
	case r.Type == api.CmdRead:
		for _, n := range parts(d, r.Length) {
			p := api.Piece{Off: r.Offset, Len: uint32(n), Hole: d.bool()}
			for range n {
				if !p.Hole {
					p.Data = append(p.Data, byte(d.below(256)))
				}
			}
			o.Pieces = append(o.Pieces, p)
			r.Offset += n
		}
	case r.Type == api.CmdStatus:
		for range s.Contexts {
			var l []api.StatusRun
			for _, n := range parts(d, r.Length) {
				l = append(l, api.StatusRun{Len: n, Flags: pick[uint64](d, 0, 1, 3, narrow, thrownFlags(d, s))})
			}
			o.Runs = append(o.Runs, l)
		}
	}
	return o
}

func thrownFlags(d *dice, s api.Session) uint64 {
	if s.Extended {
		return pick[uint64](d, narrow+1, top)
	}
	return 2
}

// parts throws for numbers that make up n.
func parts(d *dice, n uint64) []uint64 {
	var out []uint64
	for n > 0 {
		part := n
		if len(out) < 6 && d.below(3) > 0 {
			part = min(n, pick[uint64](d, 1, 2, 3, 5, n, narrow, narrow+1, n/2+1))
		}
		out, n = append(out, part), n-part
	}
	return out
}

// spoil changes one thing, so that what fitted mostly does no more.
func spoil(d *dice, c *call) {
	odd := pick[uint64](d, 1, 1, top, 2, 512, 1<<32, 1<<63)
	switch d.below(12) {
	case 0:
		c.o.Code = pick[uint32](d, 0, 5)
	case 1:
		c.o.Placed = !c.o.Placed
	case 2:
		c.o.At += odd
	case 3:
		c.r.Offset += odd
	case 4:
		c.r.Length = min(c.r.Length+odd, 1<<20)
	case 5:
		c.o.Pieces = append(c.o.Pieces, hole(c.r.Offset+c.r.Length, uint32(d.below(2))))
	case 6:
		c.o.Runs = append(c.o.Runs, pick(d, nil, []api.StatusRun{}, list(c.r.Length, 0)))
	case 7:
		c.r.Type = pick(d, eight()...)
	case 8:
		c.s = pick(d, sessions()...)
	default:
		spoilPart(d, c, odd)
	}
}

// spoilPart changes one thing of a piece or a run.
func spoilPart(d *dice, c *call, odd uint64) {
	if n := len(c.o.Pieces); n > 0 {
		p := &c.o.Pieces[d.below(n)]
		switch d.below(5) {
		case 0:
			p.Off += odd
		case 1:
			p.Len = pick(d, 0, p.Len+1, p.Len-1)
		case 2:
			p.Hole = !p.Hole
		case 3:
			p.Data = append(p.Data, 'x')
		case 4:
			p.Data = p.Data[:len(p.Data)/2]
		}
	}
	if n := len(c.o.Runs); n > 0 {
		l := &c.o.Runs[d.below(n)]
		switch k := d.below(5); {
		case k == 0 || len(*l) == 0:
			*l = (*l)[:len(*l)/2]
		case k == 1:
			*l = append(*l, list(odd, 0)...)
		case k == 4:
			*l = slices.Insert(*l, d.below(len(*l)+1), list(0, 0)...)
		case k == 2:
			(*l)[d.below(len(*l))].Len += odd
		default:
			(*l)[d.below(len(*l))].Flags += odd
		}
	}
}

// P12.1 to P12.5, R1, R3: thrown calls against the plain reading; each line of P12.1 is the only one that is broken many times.
func TestThrown(t *testing.T) {
	d := dice(12)
	alone := map[string]int{}
	for range 400000 {
		c := thrown(&d)
		l := wrong(c)
		if len(l) > 0 {
			if len(l) == 1 {
				alone[l[0]]++
			}
			if c.fits() != api.ErrOutcome {
				t.Fatalf("%v: fits, and is wrong: %v", c, l)
			}
			wantOutcome(t, "thrown", c)
			continue
		}
		if c.fits() != api.OK {
			t.Fatalf("%v: does not fit", c)
		}
		alone["nothing"]++
		holdAnswer(t, c)
	}
	for _, what := range []string{"nothing", "pieces beside an error", "runs beside an error", "at without a place", "placed below", "placed behind", "placed without an error", "at without an error", "pieces beside another", "runs beside another",
		"a piece below its place", "a piece above its place", "a piece of none", "a hole with data", "fewer bytes", "more bytes", "a piece beyond the last byte", "too few bytes", "too many bytes",
		"a status without chunks", "a status without contexts", "too few lists", "too many lists", "a list without a run", "a run of none", "a great run", "great flags", "too short a list", "too long a list"} {
		if alone[what] < 30 {
			t.Errorf("%s: only %d times", what, alone[what])
		}
	}
}

// holdAnswer holds the answers to a call that fits against the plain ones.
func holdAnswer(t *testing.T, c call) {
	t.Helper()
	b, n := plainly(c)
	a := c.answers()
	if a.asItComes != api.OK || !slices.Equal(a.bytes, b) {
		t.Fatalf("%v: %d %X, want %X", c, a.asItComes, a.bytes, b)
	}
	want(t, "Structured", reply.Structured(c.s, c.r), n > 0)
	if n == 0 {
		wantErrors(t, "thrown", c, api.OK, api.ErrArg, api.OK)
		wantSimple(t, "thrown", c, c.o.Code, string(b[16:]))
		return
	}
	wantErrors(t, "thrown", c, api.ErrArg, api.OK, api.OK)
	wantInChunks(t, "thrown", c, bodies(c)...)
}
