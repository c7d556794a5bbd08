package recent_test

import (
	"slices"
	"testing"

	"spindle/recent"
)

// P4.1
func TestNew(t *testing.T) {
	o := recent.New[string]()
	if o == nil {
		t.Fatal("New gives nothing")
	}
	wantRow(t, "new", o, "")
	wantNot(t, "new", o, "a")
	wantNot(t, "new, the zero key", o, "")
	wantRow(t, "asked for keys that it has not", o, "")
}

// P4.2
func TestAdd(t *testing.T) {
	o := made(t, "a b** c")
	for _, k := range []string{"a", "b", "c"} {
		want(t, "Add of a held key", o.Add(k), false)
		wantRow(t, "behind it", o, "a b** c")
	}
	want(t, "Add of another key", o.Add("d"), true)
	wantRow(t, "d added", o, "a b** c d")
	want(t, "Add of the zero key", o.Add(""), true)
	want(t, "and again", o.Add(""), false)
	wantHeld(t, "with the zero key", o, append(row("a b** c d"), held[string]{})...)
}

// P4.2
func TestTouch(t *testing.T) {
	for _, c := range []struct{ before, key, behind string }{
		{"a", "a", "a"},
		{"a b c d", "a", "b c d a"},
		{"a b c d", "b", "a c d b"},
		{"a b c d", "c", "a b d c"},
		{"a b c d", "d", "a b c d"},
		{"a** b c*", "a", "b c* a**"},
		{"a** b c*", "b", "a** c* b"},
		{"a* b* c*", "b", "a* c* b*"},
	} {
		o := made(t, c.before)
		want(t, "Touch "+c.key, o.Touch(c.key), true)
		wantRow(t, c.before+", "+c.key+" touched", o, c.behind)
		wantNot(t, c.before, o, "x")
		wantRow(t, "behind calls of a key that isn't held", o, c.behind)
	}
}

// P4.3
func TestDrop(t *testing.T) {
	for _, c := range []struct{ before, key, behind string }{
		{"a", "a", ""},
		{"a**", "a", ""},
		{"a b c", "a", "b c"},
		{"a b c", "b", "a c"},
		{"a b c", "c", "a b"},
		{"a* b** c***", "b", "a* c***"},
	} {
		o := made(t, c.before)
		want(t, "Drop "+c.key, o.Drop(c.key), true)
		wantRow(t, c.before+", "+c.key+" dropped", o, c.behind)
		wantNot(t, "dropped", o, c.key)
		wantRow(t, "behind calls of the dropped key", o, c.behind)

		want(t, "Add again", o.Add(c.key), true)
		wantRow(t, "added again", o, c.behind+" "+c.key)
		want(t, "and pinned", o.Pin(c.key), true)
		wantRow(t, "added again and pinned", o, c.behind+" "+c.key+"*")
	}
}

// P4.3: a key that is dropped and added again stands as a new one, wherever it stood
func TestDropAndAdd(t *testing.T) {
	o := made(t, "a* b c")
	for _, c := range []struct{ key, behind string }{{"b", "a* c b"}, {"a", "c b a"}, {"a", "c b a"}, {"c", "b a c"}} {
		want(t, "Drop "+c.key, o.Drop(c.key), true)
		want(t, "Add "+c.key, o.Add(c.key), true)
		wantRow(t, c.key+" anew", o, c.behind)
	}
}

// P4.1: an order whose keys are all dropped is as a new one
func TestEmptied(t *testing.T) {
	o := made(t, "a b* c")
	for _, k := range []string{"b", "c", "a"} {
		want(t, "Drop "+k, o.Drop(k), true)
	}
	wantRow(t, "emptied", o, "")
	wantNot(t, "emptied", o, "a")
	want(t, "Add c", o.Add("c"), true)
	want(t, "Add b", o.Add("b"), true)
	wantRow(t, "filled again", o, "c b")
}

// P4.7
func TestLen(t *testing.T) {
	o := recent.New[int]()
	for i := range 100 {
		want(t, "Len ahead of Add", o.Len(), i)
		want(t, "Add", o.Add(i), true)
		want(t, "Add again", o.Add(i), false)
		o.Touch(i / 2)
		o.Pin(i / 3)
	}
	want(t, "Len", o.Len(), 100)
	for i := range 100 {
		want(t, "Drop", o.Drop(i), true)
		want(t, "Len behind Drop", o.Len(), 99-i)
		want(t, "Drop again", o.Drop(i), false)
	}
	want(t, "Len at last", o.Len(), 0)
}

// P4.2, P4.3, P4.6: the order of many keys
func TestManyKeys(t *testing.T) {
	const n = 2000
	o := recent.New[int]()
	var keys []int
	for i := range n {
		k := i * 7919 % n
		want(t, "Add", o.Add(k), true)
		keys = append(keys, k)
	}
	wantKeys(t, "added", o.All(), keys...)
	slices.Reverse(keys)
	for _, k := range keys {
		want(t, "Touch", o.Touch(k), true)
	}
	wantKeys(t, "touched from the newest on", o.All(), keys...)
	for i, k := range keys {
		if i%3 != 0 {
			want(t, "Drop", o.Drop(k), true)
		}
	}
	var left []int
	for i := 0; i < n; i += 3 {
		left = append(left, keys[i])
	}
	wantKeys(t, "two of three dropped", o.All(), left...)
	want(t, "Len", o.Len(), len(left))
}
