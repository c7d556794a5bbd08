package recent_test

import (
	"iter"
	"slices"
	"strings"
	"testing"

	"spindle/recent"
)

// held is a key that an order holds, and how often it is pinned.
type held[K comparable] struct {
	key  K
	pins int
}

// row reads what an order is to hold, oldest first: a key a word, with a star for each pin.
func row(s string) []held[string] {
	var l []held[string]
	for _, w := range strings.Fields(s) {
		k := strings.TrimRight(w, "*")
		l = append(l, held[string]{k, len(w) - len(k)})
	}
	return l
}

// made gives an order that holds what row reads out of the text.
func made(t *testing.T, s string) *recent.Order[string] {
	t.Helper()
	o := recent.New[string]()
	for _, h := range row(s) {
		want(t, "Add "+h.key, o.Add(h.key), true)
		for range h.pins {
			want(t, "Pin "+h.key, o.Pin(h.key), true)
		}
	}
	wantRow(t, "made", o, s)
	return o
}

func want[V comparable](t *testing.T, what string, got, want V) {
	t.Helper()
	if got != want {
		t.Errorf("%s: %v, want %v", what, got, want)
	}
}

func wantKeys[K comparable](t *testing.T, what string, got iter.Seq[K], want ...K) {
	t.Helper()
	if l := slices.Collect(got); !slices.Equal(l, want) {
		t.Errorf("%s: %v, want %v", what, l, want)
	}
}

// wantHeld looks that an order holds just these keys in this order, by each of the calls that tell of them.
func wantHeld[K comparable](t *testing.T, what string, o *recent.Order[K], keys ...held[K]) {
	t.Helper()
	var all, free []K
	for _, h := range keys {
		all = append(all, h.key)
		if h.pins == 0 {
			free = append(free, h.key)
		}
		want(t, what+": Has", o.Has(h.key), true)
		want(t, what+": Pins", o.Pins(h.key), h.pins)
	}
	wantKeys(t, what+": All", o.All(), all...)
	wantKeys(t, what+": Free", o.Free(), free...)
	want(t, what+": Len", o.Len(), len(keys))
	wantOldest(t, what, o, free)
}

func wantOldest[K comparable](t *testing.T, what string, o *recent.Order[K], free []K) {
	t.Helper()
	var oldest K
	if len(free) > 0 {
		oldest = free[0]
	}
	k, ok := o.Oldest()
	want(t, what+": Oldest", k, oldest)
	want(t, what+": Oldest, is there one", ok, len(free) > 0)
}

// wantRow is wantHeld, told as row reads it.
func wantRow(t *testing.T, what string, o *recent.Order[string], s string) {
	t.Helper()
	wantHeld(t, what, o, row(s)...)
}

// wantNot looks that a key isn't held, and that each call which asks for a held one says so.
func wantNot[K comparable](t *testing.T, what string, o *recent.Order[K], k K) {
	t.Helper()
	want(t, what+": Has", o.Has(k), false)
	want(t, what+": Pins", o.Pins(k), 0)
	want(t, what+": Touch", o.Touch(k), false)
	want(t, what+": Pin", o.Pin(k), false)
	want(t, what+": Unpin", o.Unpin(k), false)
	want(t, what+": Drop", o.Drop(k), false)
	want(t, what+": Has at last", o.Has(k), false)
}

// dice gives numbers that look as if thrown, the same ones in each run.
type dice uint64

func (d *dice) below(n int) int {
	*d = *d*6364136223846793005 + 1442695040888963407
	return int(uint64(*d)>>33) % n
}
