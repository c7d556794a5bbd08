package recent_test

import (
	"slices"
	"strconv"
	"testing"

	"spindle/recent"
)

// use keeps at most n keys, as P4.9 says it.
func use[K comparable](o *recent.Order[K], n int, k K) {
	if o.Touch(k) {
		return
	}
	if o.Len() == n {
		if old, ok := o.Oldest(); ok {
			o.Drop(old)
		}
	}
	o.Add(k)
}

// lastUsed tells which n keys were used last, oldest first.
func lastUsed[K comparable](used []K, n int) []K {
	var l []K
	for i := len(used) - 1; i >= 0 && len(l) < n; i-- {
		if !slices.Contains(l, used[i]) {
			l = append(l, used[i])
		}
	}
	slices.Reverse(l)
	return l
}

// P4.9
func TestTheUse(t *testing.T) {
	throw := dice(4)
	for _, n := range []int{1, 2, 3, 7, 16} {
		for _, kinds := range []int{1, n, n + 1, 3 * n} {
			o := recent.New[int]()
			var used []int
			for range 200 {
				k := throw.below(kinds)
				use(o, n, k)
				used = append(used, k)
				wantKeys(t, strconv.Itoa(n)+" of "+strconv.Itoa(kinds), o.All(), lastUsed(used, n)...)
			}
			if t.Failed() {
				t.FailNow()
			}
		}
	}
}

// P4.9: pinned keys are passed over where something has to go
func TestTheUseWithPins(t *testing.T) {
	o := recent.New[string]()
	for _, c := range []struct{ key, behind string }{
		{"a", "a*"}, {"b", "a* b"}, {"c", "a* b c"}, {"d", "a* c d"}, {"c", "a* d c"}, {"e", "a* c e"}, {"a", "c e a*"}, {"f", "e a* f"}, {"g", "a* f g"}, {"h", "a* g h"},
	} {
		use(o, 3, c.key)
		if c.key == "a" && o.Pins("a") == 0 {
			o.Pin("a")
		}
		wantRow(t, c.key+" used", o, c.behind)
	}
}
