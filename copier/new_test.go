package copier_test

import (
	"fmt"
	"math"
	"strings"
	"testing"

	"spindle/api"
	"spindle/copier"
)

// made tells what New says of a plan; a copier comes with OK alone.
func made(t *testing.T, what string, p api.CopyPlan) api.Errno {
	t.Helper()
	c, e := copier.New(p)
	want(t, what+": a copier", c != nil, e == api.OK)
	if c != nil {
		want(t, what+": its state", c.State(), api.CopyState{Phase: api.CopyBegin})
		wantBytes(t, what+": its mail", c.Say(0), nil)
		wantBytes(t, what+": its mail", c.Say(1), nil)
	}
	return e
}

// refusedUnless looks what New says of a plan.
func refusedUnless(t *testing.T, right bool, what string, p api.CopyPlan) {
	t.Helper()
	e := api.ErrPlan
	if right {
		e = api.OK
	}
	want(t, what, made(t, what, p), e)
}

// P23.1: the names are texts of at most MaxText bytes.
func TestNames(t *testing.T) {
	long := strings.Repeat("é", api.MaxText/2)
	for _, x := range []struct {
		name  string
		right bool
	}{
		{"", true}, {"a", true}, {"für sich", true}, {"\U0010ffff", true}, {"\ufffd", true}, {"a\nb", true},
		{long[:len(long)-2] + "x", true}, {long, true}, {long + "x", false}, {long + long, false},
		{"\x00", false}, {"a\x00", false}, {"\x00a", false}, {"a\xff", false}, {"\xc3", false}, {"\xed\xa0\x80", false}, {"\xc0\x80", false}, {long[:len(long)-1], false},
	} {
		p := aPlan()
		p.Source = x.name
		refusedUnless(t, x.right, fmt.Sprintf("the source %.20q", x.name), p)
		p = aPlan()
		p.Target = x.name
		refusedUnless(t, x.right, fmt.Sprintf("the target %.20q", x.name), p)
	}
}

// P23.1: the chunk is a multiple of 4096 within its bounds.
func TestChunks(t *testing.T) {
	for _, n := range []uint32{4096, 8192, 12288, 65536, 1<<19 + 4096, 1<<20 - 4096, 1 << 20} {
		p := aPlan()
		p.Chunk = n
		refusedUnless(t, true, fmt.Sprint("Chunk ", n), p)
	}
	for _, n := range []uint32{0, 1, 512, 2048, 4095, 4097, 4608, 6144, 8191, 1<<20 - 1, 1<<20 + 1, 1<<20 + 4096, 1 << 21, 1 << 31, 1<<32 - 4096, 1<<32 - 1} {
		p := aPlan()
		p.Chunk = n
		refusedUnless(t, false, fmt.Sprint("Chunk ", n), p)
	}
}

// P23.1: Flight and Tries are from 1 to 64.
func TestFlightsAndTries(t *testing.T) {
	for _, n := range []int{math.MinInt, -64, -1, 0, 1, 2, 63, 64, 65, 1 << 32, 1<<32 + 1, math.MaxInt} {
		right := n >= 1 && n <= 64
		p := aPlan()
		p.Flight = n
		refusedUnless(t, right, fmt.Sprint("Flight ", n), p)
		p = aPlan()
		p.Tries = n
		refusedUnless(t, right, fmt.Sprint("Tries ", n), p)
	}
}

// P23.1: one wrong part is enough, whatever the others are.
func TestPlansTogether(t *testing.T) {
	for n := range 64 {
		p := dirtyPlan()
		p.Dirty = n&32 != 0
		if n&1 != 0 {
			p.Source = "\x00"
		}
		if n&2 != 0 {
			p.Target = "\xff"
		}
		if n&4 != 0 {
			p.Chunk = 100
		}
		if n&8 != 0 {
			p.Flight = 65
		}
		if n&16 != 0 {
			p.Tries = 0
		}
		refusedUnless(t, n&31 == 0, fmt.Sprint("plan ", n), p)
	}
	refusedUnless(t, false, "no plan", api.CopyPlan{})
}

// P23.1: each copier is a new one, and knows nothing of another.
func TestNewOnes(t *testing.T) {
	a, b := newDesk(t, "one", aPlan()), newDesk(t, "the other", aPlan())
	want(t, "two are one", a.c == b.c, false)
	a.begin(1, form{}, 8192)
	b.wantState(api.CopyState{Phase: api.CopyBegin})
	b.wantSay(1)
	b.hear(1, many(100, 0))
	b.wantState(api.CopyState{Phase: api.CopyFailed, Side: 1})
	a.begin(0, plainly, 8192)
	a.wantState(api.CopyState{Phase: api.CopyWork, Size: 8192})
}

// P23.1: names at the limit, and the empty one, are asked for as they are.
func TestNamesThatAreSaid(t *testing.T) {
	for _, names := range [][2]string{{"", ""}, {strings.Repeat("n", api.MaxText), strings.Repeat("é", api.MaxText/2)}, {"für sich", "a"}} {
		p := dirtyPlan()
		p.Source, p.Target = names[0], names[1]
		working(t, fmt.Sprintf("the names %.20q", names), p, both, 4096)
	}
}
