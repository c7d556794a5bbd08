package recent_test

import (
	"testing"
	"time"

	"spindle/api"
	"spindle/recent"
)

// P4.4
func TestPinAndUnpin(t *testing.T) {
	o := made(t, "a b c")
	for _, c := range []struct {
		what   string
		call   func(string) bool
		key    string
		answer bool
		behind string
	}{
		{"Pin", o.Pin, "b", true, "a b* c"},
		{"Pin", o.Pin, "b", true, "a b** c"},
		{"Pin", o.Pin, "c", true, "a b** c*"},
		{"Pin", o.Pin, "x", false, "a b** c*"},
		{"Unpin", o.Unpin, "x", false, "a b** c*"},
		{"Unpin", o.Unpin, "a", false, "a b** c*"},
		{"Touch", o.Touch, "b", true, "a c* b**"},
		{"Pin", o.Pin, "a", true, "a* c* b**"},
		{"Unpin", o.Unpin, "b", true, "a* c* b*"},
		{"Unpin", o.Unpin, "c", true, "a* c b*"},
		{"Unpin", o.Unpin, "c", false, "a* c b*"},
		{"Add", o.Add, "b", false, "a* c b*"},
		{"Unpin", o.Unpin, "b", true, "a* c b"},
		{"Unpin", o.Unpin, "b", false, "a* c b"},
		{"Drop", o.Drop, "a", true, "c b"},
		{"Unpin", o.Unpin, "a", false, "c b"},
		{"Pin", o.Pin, "a", false, "c b"},
		{"Add", o.Add, "a", true, "c b a"},
		{"Unpin", o.Unpin, "a", false, "c b a"},
	} {
		want(t, c.what+" "+c.key, c.call(c.key), c.answer)
		wantRow(t, "behind "+c.what+" "+c.key, o, c.behind)
	}
	wantNot(t, "a key that isn't held", o, "x")
}

// P4.4: pins are counted, key by key
func TestManyPins(t *testing.T) {
	o := made(t, "a b")
	const n = 100_000
	for range n {
		o.Pin("a")
	}
	wantHeld(t, "pinned", o, held[string]{"a", n}, held[string]{"b", 0})
	for i := range n {
		if o.Pins("a") != n-i || !o.Unpin("a") {
			t.Fatal("Unpin:", i, o.Pins("a"))
		}
	}
	want(t, "Unpin without a pin", o.Unpin("a"), false)
	wantRow(t, "unpinned", o, "a b")
}

// P4.4, R7: at MaxPins all is as below it, one past it is refused
func TestMaxPins(t *testing.T) {
	if testing.Short() {
		t.Skip("2^31 calls take their time")
	}
	t.Parallel()
	o := recent.New[uint32]()
	o.Add(1)
	o.Add(2)
	o.Pin(2)
	if n := pinUp(t, o, 1, api.MaxPins, time.Now().Add(time.Minute)); n < api.MaxPins {
		t.Skip("this machine is too slow for them; pins that were counted:", n)
	}
	full := []held[uint32]{{1, api.MaxPins}, {2, 1}}
	wantHeld(t, "at MaxPins", o, full...)
	for range 3 {
		want(t, "one past MaxPins", o.Pin(1), false)
		wantHeld(t, "refused", o, full...)
	}
	want(t, "Pin of the other key", o.Pin(2), true)
	want(t, "Unpin of the other key", o.Unpin(2), true)
	want(t, "Unpin", o.Unpin(1), true)
	wantHeld(t, "one below MaxPins", o, held[uint32]{1, api.MaxPins - 1}, held[uint32]{2, 1})
	want(t, "Pin", o.Pin(1), true)
	want(t, "Pin past MaxPins", o.Pin(1), false)
	want(t, "Touch", o.Touch(1), true)
	wantHeld(t, "touched", o, full[1], full[0])
	want(t, "Drop", o.Drop(1), true)
	want(t, "Add", o.Add(1), true)
	want(t, "Pin of the key anew", o.Pin(1), true)
	wantHeld(t, "anew", o, held[uint32]{2, 1}, held[uint32]{1, 1})
}

// pinUp pins a key so often, or as often as it can until then, and tells how often that was.
func pinUp(t *testing.T, o *recent.Order[uint32], k uint32, most int, until time.Time) int {
	t.Helper()
	n := 0
	for n < most && time.Now().Before(until) {
		for range min(1<<22, most-n) {
			if !o.Pin(k) {
				t.Fatal("Pin is refused with so many pins:", o.Pins(k))
			}
			n++
		}
	}
	want(t, "Pins", o.Pins(k), n)
	return n
}

// P4.5
func TestOldest(t *testing.T) {
	for _, c := range []struct {
		row, oldest string
		ok          bool
	}{
		{"", "", false},
		{"a", "a", true},
		{"a*", "", false},
		{"b a", "b", true},
		{"b* a", "a", true},
		{"b** a* c d", "c", true},
		{"b a* c*", "b", true},
		{"b* a** c*", "", false},
	} {
		o := made(t, c.row)
		for range 3 {
			k, ok := o.Oldest()
			want(t, c.row+": the oldest", k, c.oldest)
			want(t, c.row+": is there one", ok, c.ok)
			wantRow(t, "Oldest changes nothing", o, c.row)
		}
	}
}

// P4.5: a key that is free again is the oldest where it stood
func TestOldestMoves(t *testing.T) {
	o := made(t, "a* b* c")
	o.Touch("c")
	wantRow(t, "c touched", o, "a* b* c")
	o.Pin("c")
	wantRow(t, "none is free", o, "a* b* c*")
	o.Unpin("b")
	wantRow(t, "b is free", o, "a* b c*")
	o.Unpin("a")
	wantRow(t, "a is free", o, "a b c*")
	o.Touch("a")
	wantRow(t, "a touched", o, "b c* a")
	o.Drop("b")
	wantRow(t, "b dropped", o, "c* a")
}

// P4.5: the zero key may be the oldest
func TestOldestIsTheZeroKey(t *testing.T) {
	o := recent.New[int]()
	o.Add(0)
	o.Add(1)
	wantHeld(t, "zero first", o, held[int]{0, 0}, held[int]{1, 0})
	o.Pin(0)
	wantHeld(t, "zero pinned", o, held[int]{0, 1}, held[int]{1, 0})
	o.Pin(1)
	wantHeld(t, "both pinned", o, held[int]{0, 1}, held[int]{1, 1})
}
