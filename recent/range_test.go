package recent_test

import (
	"iter"
	"strings"
	"testing"
)

// during ranges and does something at each key, and tells the keys that it went through.
func during(keys iter.Seq[string], do func(k string)) string {
	var l []string
	for k := range keys {
		l = append(l, k)
		do(k)
	}
	return strings.Join(l, " ")
}

// until ranges up to a key and leaves the ranging there.
func until(keys iter.Seq[string], last string) string {
	var l []string
	for k := range keys {
		l = append(l, k)
		if k == last {
			break
		}
	}
	return strings.Join(l, " ")
}

func nothing(string) {}

// each makes a call with each of the keys.
func each(call func(string) bool, keys string) {
	for _, k := range strings.Fields(keys) {
		call(k)
	}
}

// P4.6
func TestAllAndFree(t *testing.T) {
	for _, c := range []struct{ row, all, free string }{
		{"", "", ""},
		{"a", "a", "a"},
		{"a*", "a", ""},
		{"c a b", "c a b", "c a b"},
		{"c* a b", "c a b", "a b"},
		{"c a** b", "c a b", "c b"},
		{"c a b*", "c a b", "c a"},
		{"c*** a* b**", "c a b", ""},
	} {
		o := made(t, c.row)
		want(t, c.row+": All", during(o.All(), nothing), c.all)
		want(t, c.row+": Free", during(o.Free(), nothing), c.free)
		wantRow(t, "ranging changes nothing", o, c.row)
	}
}

// P4.6, R6: left early
func TestLeftEarly(t *testing.T) {
	o := made(t, "a b* c d")
	all, free := o.All(), o.Free()
	for range 2 {
		want(t, "All up to a", until(all, "a"), "a")
		want(t, "All up to c", until(all, "c"), "a b c")
		want(t, "All up to d", until(all, "d"), "a b c d")
		want(t, "Free up to a", until(free, "a"), "a")
		want(t, "Free up to c", until(free, "c"), "a c")
	}
	wantRow(t, "behind it", o, "a b* c d")
}

// P4.6, R6: begun again, the ranging tells what there is then
func TestBegunAgain(t *testing.T) {
	o := made(t, "")
	all, free := o.All(), o.Free()
	for _, c := range []struct {
		call      func(string) bool
		key       string
		all, free string
	}{
		{o.Has, "a", "", ""},
		{o.Add, "a", "a", "a"},
		{o.Add, "b", "a b", "a b"},
		{o.Has, "b", "a b", "a b"},
		{o.Touch, "a", "b a", "b a"},
		{o.Pin, "b", "b a", "a"},
		{o.Add, "c", "b a c", "a c"},
		{o.Unpin, "b", "b a c", "b a c"},
		{o.Drop, "a", "b c", "b c"},
		{o.Pin, "c", "b c", "b"},
		{o.Drop, "b", "c", ""},
		{o.Drop, "c", "", ""},
	} {
		c.call(c.key)
		want(t, "All again", during(all, nothing), c.all)
		want(t, "Free again", during(free, nothing), c.free)
		want(t, "All anew", during(o.All(), nothing), c.all)
		want(t, "Free anew", during(o.Free(), nothing), c.free)
	}
}

// P4.6, R6: one ranging within another, of the same answer too
func TestNested(t *testing.T) {
	o := made(t, "a b* c")
	all, free := o.All(), o.Free()
	var l []string
	for x := range all {
		for y := range all {
			l = append(l, x+y+during(free, nothing))
		}
	}
	want(t, "pairs", strings.Join(l, " "), "aaa c aba c aca c baa c bba c bca c caa c cba c cca c")

	l = nil
	for x := range all {
		o.Touch(x)
		for y := range all {
			l = append(l, x+y)
			if y != x {
				break
			}
		}
	}
	want(t, "pairs, touched meanwhile, left early", strings.Join(l, " "), "ab bc ca")
	wantRow(t, "all were touched in their order", o, "a b* c")
}

// P4.6, R6: what is done to the order meanwhile a ranging does not see
func TestChangedMeanwhile(t *testing.T) {
	for _, c := range []struct {
		what, row        string
		do               func(o order, k string)
		all, behindAll   string
		free, behindFree string
	}{
		{"each dropped", "a b* c", func(o order, k string) { o.Drop(k) },
			"a b c", "", "a c", "b*"},
		{"all dropped at once", "a b* c d", func(o order, _ string) { each(o.Drop, "d b a c") },
			"a b c d", "", "a c d", ""},
		{"the next ones dropped", "a b c d", func(o order, _ string) { each(o.Drop, "b c") },
			"a b c d", "a d", "a b c d", "a d"},
		{"each touched", "a b* c", func(o order, k string) { o.Touch(k) },
			"a b c", "a b* c", "a c", "b* a c"},
		{"the newest touched", "a b* c", func(o order, _ string) { o.Touch("c") },
			"a b c", "a b* c", "a c", "a b* c"},
		{"the next ones touched", "a b* c d", func(o order, _ string) { each(o.Touch, "c b") },
			"a b c d", "a d c b*", "a c d", "a d c b*"},
		{"others added", "a b* c", func(o order, _ string) { each(o.Add, "d e f") },
			"a b c", "a b* c d e f", "a c", "a b* c d e f"},
		{"dropped and added again", "a b* c", func(o order, k string) { o.Drop(k); o.Add(k) },
			"a b c", "a b c", "a c", "b* a c"},
		{"the next ones pinned", "a b c", func(o order, _ string) { each(o.Pin, "b c") },
			"a b c", "a b*** c***", "a b c", "a b*** c***"},
		{"all unpinned", "a b* c**", func(o order, _ string) { each(o.Unpin, "b c c") },
			"a b c", "a b c", "a", "a b c"},
	} {
		o := made(t, c.row)
		want(t, c.what+": All", during(o.All(), func(k string) { c.do(o, k) }), c.all)
		wantRow(t, c.what+": behind All", o, c.behindAll)
		o = made(t, c.row)
		want(t, c.what+": Free", during(o.Free(), func(k string) { c.do(o, k) }), c.free)
		wantRow(t, c.what+": behind Free", o, c.behindFree)
	}
}

// P4.6, R6: rangings that go on side by side, each begun at another moment
func TestSideBySide(t *testing.T) {
	o := made(t, "a b c")
	all := o.All()
	next1, stop1 := iter.Pull(all)
	defer stop1()
	step := func(next func() (string, bool), k string, ok bool) {
		t.Helper()
		gotK, gotOK := next()
		want(t, "the next key", gotK, k)
		want(t, "is there one", gotOK, ok)
	}
	step(next1, "a", true)
	o.Drop("b")
	next2, stop2 := iter.Pull(all)
	defer stop2()
	step(next2, "a", true)
	o.Touch("a")
	o.Add("b")
	step(next2, "c", true)
	step(next1, "b", true)
	step(next2, "", false)
	step(next1, "c", true)
	step(next1, "", false)
	wantRow(t, "at last", o, "c a b")
}
