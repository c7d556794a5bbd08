package recent_test

import "testing"

// The chapter's examples, one behind the other on one order.
func TestExamples(t *testing.T) {
	o := made(t, "a b c")
	want(t, "1: Touch a", o.Touch("a"), true)
	wantRow(t, "1: a touched", o, "b c a")
	want(t, "1: Add b", o.Add("b"), false)
	want(t, "1: Drop c", o.Drop("c"), true)
	wantRow(t, "1: c dropped, Oldest b", o, "b a")

	want(t, "2: Pin b", o.Pin("b"), true)
	want(t, "2: Pin b", o.Pin("b"), true)
	wantRow(t, "2: Oldest a, Free a, All b a", o, "b** a")
	want(t, "2: Unpin b", o.Unpin("b"), true)
	wantRow(t, "2: Oldest a still", o, "b* a")
	want(t, "2: Unpin b", o.Unpin("b"), true)
	wantRow(t, "2: Oldest b", o, "b a")
	want(t, "2: Unpin b", o.Unpin("b"), false)

	want(t, "3: Pin a", o.Pin("a"), true)
	want(t, "3: Pin b", o.Pin("b"), true)
	wantRow(t, "3: no key is free", o, "b* a*")
	want(t, "3: Drop b", o.Drop("b"), true)
	want(t, "3: Add b", o.Add("b"), true)
	wantRow(t, "3: b has no pin", o, "a* b")

	want(t, "4: Touch x", o.Touch("x"), false)
	want(t, "4: Pin x", o.Pin("x"), false)
	want(t, "4: Drop x", o.Drop("x"), false)
	wantRow(t, "4: nothing changes", o, "a* b")

	want(t, "5: each dropped", during(o.All(), func(k string) { o.Drop(k) }), "a b")
	wantRow(t, "5: none is left", o, "")
}
