package mirror_test

import (
	"fmt"
	"math"
	"strings"
	"testing"

	"spindle/api"
	"spindle/mirror"
)

// refusedUnless looks what New says of a plan; a mirror comes with OK alone, and has no operation and no member that is not out.
func refusedUnless(t *testing.T, right bool, what string, p api.MirrorPlan) {
	t.Helper()
	m, e := mirror.New(p)
	wantE := api.ErrMembers
	if right {
		wantE = api.OK
	}
	want(t, what, e, wantE)
	want(t, what+": a mirror", m != nil, right)
	if m == nil || !right {
		return
	}
	l := api.MirrorLook{Copying: -1}
	for range p.Members {
		l.Members = append(l.Members, api.MemberOut)
		l.Missed = append(l.Missed, nil)
	}
	wantLook(t, what, m.Look(), l)
	wantEnded(t, what, m.Done(), nil)
	for k := range p.Members {
		wantBytes(t, what+": Say", m.Say(k), nil)
	}
}

// P24.1: from 1 to 4 members.
func TestHowManyMembers(t *testing.T) {
	for _, n := range []int{math.MinInt, -4, -1, 0, 1, 2, 3, 4, 5, 6, 16, 1 << 32, 1<<32 + 1, math.MaxInt} {
		p := aPlan(n)
		refusedUnless(t, n >= 1 && n <= 4, fmt.Sprint("Members ", n), p)
	}
}

// P24.1: the name is a text of at most MaxText bytes.
func TestNames(t *testing.T) {
	long := strings.Repeat("é", api.MaxText/2)
	for _, x := range []struct {
		name  string
		right bool
	}{
		{"", true}, {"a", true}, {"für sich", true}, {"\U0010ffff", true}, {"\ufffd", true}, {"a\nb", true},
		{long[:len(long)-2] + "x", true}, {long, true}, {long + "x", false}, {long + long, false},
		{"\x00", false}, {"a\x00", false}, {"\x00a", false}, {"a\xff", false}, {"\xc3", false}, {"\xed\xa0\x80", false}, {"\xc0\x80", false}, {long[:len(long)-1], false},
	} {
		p := aPlan(2)
		p.Name = x.name
		refusedUnless(t, x.right, fmt.Sprintf("the name %.20q", x.name), p)
	}
}

// P24.1: the device has from 1 to 2^40 bytes.
func TestSizes(t *testing.T) {
	for _, n := range []uint64{1, 2, 511, 512, 4096, 1<<32 - 1, 1 << 32, 1<<40 - 1, 1 << 40} {
		p := aPlan(2)
		p.Size = n
		refusedUnless(t, true, fmt.Sprint("Size ", n), p)
	}
	for _, n := range []uint64{0, 1<<40 + 1, 1<<40 + 4096, 1 << 41, 1 << 63, 1<<63 + 1, 1<<64 - 1} {
		p := aPlan(2)
		p.Size = n
		refusedUnless(t, false, fmt.Sprint("Size ", n), p)
	}
}

// P24.1: the chunk is from 512 to 1048576, and no multiple of anything.
func TestChunks(t *testing.T) {
	for _, n := range []uint32{512, 513, 1000, 1024, 65536, 1<<20 - 1, 1 << 20} {
		p := aPlan(2)
		p.Chunk = n
		refusedUnless(t, true, fmt.Sprint("Chunk ", n), p)
	}
	for _, n := range []uint32{0, 1, 511, 1<<20 + 1, 1<<20 + 512, 1 << 21, 1 << 31, 1<<32 - 1} {
		p := aPlan(2)
		p.Chunk = n
		refusedUnless(t, false, fmt.Sprint("Chunk ", n), p)
	}
}

// P24.1: one wrong part is enough, whatever the others are.
func TestPlansTogether(t *testing.T) {
	for n := range 16 {
		p := aPlan(1 + n%4)
		if n&1 != 0 {
			p.Members = 5
		}
		if n&2 != 0 {
			p.Name = "\xff"
		}
		if n&4 != 0 {
			p.Size = 0
		}
		if n&8 != 0 {
			p.Chunk = 100
		}
		refusedUnless(t, n == 0, fmt.Sprint("plan ", n), p)
	}
	refusedUnless(t, false, "no plan", api.MirrorPlan{})
}

// P24.1: a device smaller than a chunk, and one at the limit, are mirrored; names at the limit, and the empty one, are asked for as they are.
func TestPlansAtTheBounds(t *testing.T) {
	for _, p := range []api.MirrorPlan{
		{Members: 1, Name: "", Size: 1, Chunk: 512},
		{Members: 4, Name: strings.Repeat("n", api.MaxText), Size: 1 << 40, Chunk: 1 << 20},
		{Members: 3, Name: strings.Repeat("é", api.MaxText/2), Size: 1, Chunk: 1 << 20},
	} {
		d := newDesk(t, fmt.Sprintf("%d members of %d bytes", p.Members, p.Size), p)
		for k := range p.Members {
			d.opens(k)
		}
		d.lose(p.Members - 1)
		n := min(p.Size, uint64(p.Chunk))
		d.write(p.Size-n, many(int(n), 0))
		d.zero(0, uint32(min(p.Size, 1<<32-1)))
		d.read(p.Size-1, 1)
		d.flush()
		if p.Members == 1 {
			d.wantDone(wentWrong(1), wentWrong(2), wentWrong(3), wentWrong(4))
			continue
		}
		d.settle()
		d.opens(p.Members - 1)
		d.wantWaiting(0, p.Members-1)
		d.say(0)
		d.hear(0, well(5, many(int(n), 3)...))
		d.wantSay(p.Members-1, writeBytes(1, 0, many(int(n), 3)))
	}
}

// P24.1: each mirror is a new one, and knows nothing of another.
func TestNewOnes(t *testing.T) {
	a, b := newDesk(t, "one", aPlan(2)), newDesk(t, "the other", aPlan(2))
	want(t, "two are one", a.m == b.m, false)
	a.opens(0)
	b.wantStates("oo")
	b.write(0, []byte("a"))
	b.wantDone(wentWrong(1))
	a.write(0, []byte("a"))
	a.wantSay(0, writeBytes(1, 0, []byte("a")))
	a.wantMissed(1, 0, 1)
	b.wantMissed(1)
}
