package client_test

import (
	"iter"
	"slices"
	"testing"

	"spindle/api"
)

// numbered asks so many requests, each other than the others, and gives what is outstanding then.
func numbered(t *testing.T, c interface {
	Request(api.Request) ([]byte, uint64, api.Errno)
}, n int) []api.Outstanding {
	t.Helper()
	var out []api.Outstanding
	for i := range n {
		q := asking([]uint16{0, 3, 4, 5, 6, 7, 99}[i%7], uint64(i*i), uint64(i))
		_, cookie, e := c.Request(q)
		want(t, "Request", e, api.OK)
		out = append(out, outstanding(cookie, q))
	}
	return out
}

// P16.7: the outstanding requests by rising cookies, however many they are and in whatever order others were answered.
func TestOutstanding(t *testing.T) {
	c := working(t, plainly)
	wantOutstanding(t, "none", c)
	wanted := numbered(t, c, 500)
	wantOutstanding(t, "many", c, wanted...)
	d := dice(2)
	for len(wanted) > 0 {
		i := d.below(len(wanted))
		c.In(simpleBytes(5, wanted[i].Cookie))
		wanted = slices.Delete(wanted, i, i+1)
		if len(wanted)%50 < 3 {
			wantOutstanding(t, "fewer", c, wanted...)
		}
	}
	wantOutstanding(t, "none again", c)
}

// P16.7, R6: a ranging that is left early, and made again.
func TestOutstandingLeftEarly(t *testing.T) {
	c := working(t, plainly)
	wanted := numbered(t, c, 5)
	all := c.Outstanding()
	for n := range 6 {
		var got []api.Outstanding
		for o := range all {
			if len(got) == n {
				break
			}
			got = append(got, o)
		}
		want(t, "as far as was ranged", slices.Equal(got, wanted[:min(n, 5)]), true)
	}
	want(t, "all", slices.Equal(slices.Collect(all), wanted), true)
}

// R6: what is asked and answered while a ranging goes on it does not see; one that begins later, of the same answer too, does.
func TestOutstandingWhileTheClientIsUsed(t *testing.T) {
	c := working(t, plainly)
	wanted := numbered(t, c, 4)
	all := c.Outstanding()
	var got []api.Outstanding
	for o := range all {
		got = append(got, o)
		c.In(simpleBytes(5, 5-o.Cookie)) // 4, 3, 2, 1
		numbered(t, c, 1)
	}
	want(t, "as it was", slices.Equal(got, wanted), true)
	var cookies []uint64
	for o := range all {
		cookies = append(cookies, o.Cookie)
	}
	want(t, "anew", slices.Equal(cookies, []uint64{5, 6, 7, 8}), true)
	before := slices.Collect(all)
	got = nil
	for o := range all {
		if got = append(got, o); len(got) == 1 {
			wantBreakHere(t, c.In(simpleBytes(0, 99)))
		}
	}
	want(t, "broken while it is ranged over", slices.Equal(got, before), true)
	wantOutstanding(t, "broken", c, before...)
}

func wantBreakHere(t *testing.T, heard []api.Event) {
	t.Helper()
	wantEvents(t, "a break", heard, api.Event{Kind: api.EvBroken})
}

// R6: an answer of Outstanding from before tells what there is when the ranging begins; rangings may be nested, and go side by side.
func TestOutstandingNested(t *testing.T) {
	c := fresh(t)
	early := c.Outstanding()
	want(t, "ahead of the greeting", len(slices.Collect(early)), 0)
	c.In(greetingBytes(3))
	c.Flags(3)
	goOn(t, c)
	wanted := numbered(t, c, 3)
	want(t, "later", slices.Equal(slices.Collect(early), wanted), true)
	n := 0
	for a := range early {
		for b := range early {
			want(t, "inside", b == wanted[n%3], true)
			want(t, "outside", a == wanted[n/3], true)
			n++
		}
	}
	want(t, "pairs", n, 9)
	next, stop := iter.Pull(early)
	defer stop()
	other, end := iter.Pull(early)
	defer end()
	for i := range 3 {
		a, _ := next()
		if i == 1 {
			c.In(simpleBytes(0, 2))
		}
		b, _ := other()
		want(t, "side by side", a == wanted[i] && b == wanted[i], true)
	}
}

// P16.7: what a broken client has asked and was never answered is outstanding still.
func TestOutstandingOfABrokenClient(t *testing.T) {
	c := working(t, inChunks)
	numbered(t, c, 3)
	c.In([]byte("no answer"))
	want(t, "Phase", c.Phase(), api.ClientBroken)
	want(t, "never answered", len(listed(c)), 3)
}
