package recent_test

import (
	"iter"
	"math"
	"slices"
	"testing"

	"spindle/recent"
)

type order = *recent.Order[string]

// R1, P4.8: an order that New did not give
func TestOrderThatNewDidNotGive(t *testing.T) {
	for _, o := range []order{nil, {}} {
		all, free := o.All(), o.Free()
		for _, k := range []string{"a", "", "a"} {
			want(t, "Add", o.Add(k), false)
			wantNot(t, "behind Add", o, k)
			wantRow(t, "behind all calls", o, "")
			wantKeys(t, "All, answered ahead", all)
			wantKeys(t, "Free, answered ahead", free)
		}
	}
	var o recent.Order[int]
	want(t, "Add", o.Add(0), false)
	wantNot(t, "a plain order", &o, 0)
	wantHeld(t, "a plain order", &o)
}

// R5, R9: two orders know nothing of one another
func TestTwoOrders(t *testing.T) {
	a, b := made(t, "x y* z"), made(t, "z y x")
	a.Touch("x")
	b.Pin("z")
	b.Drop("y")
	wantRow(t, "the one", a, "y* z x")
	wantRow(t, "the other", b, "z* x")
	for k := range a.All() {
		a.Drop(k)
		b.Add(k)
	}
	wantRow(t, "the one, emptied", a, "")
	wantRow(t, "the other, filled", b, "z* x y")
	wantRow(t, "a third", recent.New[string](), "")
}

type several struct {
	name  string
	place [2]int
	any   any
}

// Keys are the same by ==: of types with several fields, arrays, interfaces and pointers too.
func TestKeysOfSeveralFields(t *testing.T) {
	a := several{"a", [2]int{1, 2}, 3}
	other := []several{{"b", a.place, 3}, {"a", [2]int{1, 3}, 3}, {"a", a.place, int64(3)}, {"a", a.place, nil}, {}}
	o := recent.New[several]()
	want(t, "Add", o.Add(a), true)
	for _, k := range other {
		wantNot(t, "another key", o, k)
		want(t, "Add", o.Add(k), true)
	}
	want(t, "Add of the same", o.Add(several{"a", [2]int{1, 2}, 3}), false)
	want(t, "Touch of the same", o.Touch(several{"a", [2]int{1, 2}, 3}), true)
	want(t, "Pin", o.Pin(several{"a", [2]int{1, 2}, 3}), true)
	all := slices.Concat(other, []several{a})
	wantKeys(t, "All", o.All(), all...)
	wantKeys(t, "Free", o.Free(), other...)
	want(t, "Drop", o.Drop(several{any: nil}), true)
	want(t, "Drop", o.Drop(several{"a", [2]int{1, 2}, 3}), true)
	wantKeys(t, "All at last", o.All(), other[:4]...)
}

func TestKeysOfOtherTypes(t *testing.T) {
	x, y := 1, 1
	p := recent.New[*int]()
	p.Add(&x)
	wantNot(t, "another pointer", p, &y)
	wantNot(t, "no pointer", p, nil)
	p.Add(nil)
	wantHeld(t, "pointers", p, held[*int]{&x, 0}, held[*int]{nil, 0})

	o := recent.New[any]()
	for _, k := range []any{1, "1", int8(1), nil} {
		wantNot(t, "another interface", o, k)
		want(t, "Add", o.Add(k), true)
		want(t, "Add again", o.Add(k), false)
	}
	o.Pin("1")
	wantHeld(t, "interfaces", o, held[any]{1, 0}, held[any]{"1", 1}, held[any]{int8(1), 0}, held[any]{nil, 0})

	s := recent.New[string]()
	s.Add("key")
	want(t, "the same text in other memory", s.Touch(string([]byte{'k', 'e', 'y'})), true)

	f := recent.New[float64]()
	f.Add(0)
	want(t, "0 and -0 are the same", f.Add(math.Copysign(0, -1)), false)
	want(t, "0 and -0 are the same", f.Drop(math.Copysign(0, -1)), true)
	wantHeld(t, "dropped", f)

	e := recent.New[struct{}]()
	want(t, "the only key", e.Add(struct{}{}), true)
	want(t, "again", e.Add(struct{}{}), false)
	wantHeld(t, "one key", e, held[struct{}]{})
}

// callAll makes every call with a key, and ranges.
func callAll[K comparable](t *testing.T, o *recent.Order[K], k K) {
	t.Helper()
	for _, call := range []func(K) bool{o.Touch, o.Pin, o.Unpin, o.Drop, o.Add, o.Add, o.Pin, o.Touch, o.Unpin, o.Unpin, o.Has, o.Drop, o.Add} {
		call(k)
		o.Pins(k)
		o.Oldest()
		o.Len()
	}
	n := 0
	for _, keys := range []iter.Seq[K]{o.All(), o.Free()} {
		for range keys {
			if n++; n > 1000 {
				t.Fatal("there were not so many keys")
			}
		}
	}
}

// Of a key that isn't the same as itself nothing is promised but that calls end.
func TestKeyThatIsNotItself(t *testing.T) {
	o := recent.New[float64]()
	for range 5 {
		callAll(t, o, math.NaN())
	}
	s := recent.New[several]()
	for range 5 {
		callAll(t, s, several{any: math.NaN()})
	}
}

// R1: none panics, of keys that == cannot compare neither; those that it can are held as ever
func TestKeyThatCannotBeCompared(t *testing.T) {
	o := recent.New[any]()
	o.Add("a")
	o.Add("b")
	o.Pin("b")
	for _, k := range []any{[]int{1}, map[int]int{}, func() {}, struct{ l []int }{}, [1]any{[]int{}}} {
		callAll(t, o, k)
		callAll(t, recent.New[any](), k)
	}
	s := recent.New[several]()
	s.Add(several{name: "a"})
	callAll(t, s, several{any: []int{1}})
	want(t, "Has", s.Has(several{name: "a"}), true)

	o.Touch("a")
	var told []any
	for k := range o.All() {
		if name, ok := k.(string); ok {
			told = append(told, name)
		}
	}
	if !slices.Equal(told, []any{"b", "a"}) || o.Pins("b") != 1 || o.Pins("a") != 0 {
		t.Error("the others:", told, o.Pins("b"), o.Pins("a"))
	}
}
