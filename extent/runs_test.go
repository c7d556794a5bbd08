package extent_test

import (
	"math"
	"slices"
	"testing"

	"spindle/api"
	"spindle/extent"
)

func TestRunsOfAPart(t *testing.T) {
	m := letters(t, "aabbbcaa")
	for _, x := range []struct {
		lo, hi int64
		want   []run
	}{
		{0, 8, []run{{0, 2, "a"}, {2, 5, "b"}, {5, 6, "c"}, {6, 8, "a"}}},
		{0, 2, []run{{0, 2, "a"}}},
		{0, 1, []run{{0, 1, "a"}}},
		{1, 2, []run{{1, 2, "a"}}},
		{3, 4, []run{{3, 4, "b"}}},
		{2, 5, []run{{2, 5, "b"}}},
		{1, 3, []run{{1, 2, "a"}, {2, 3, "b"}}},
		{2, 6, []run{{2, 5, "b"}, {5, 6, "c"}}},
		{4, 7, []run{{4, 5, "b"}, {5, 6, "c"}, {6, 7, "a"}}},
		{7, 8, []run{{7, 8, "a"}}},
		{-1, 1, []run{{0, 1, "a"}}},
		{7, 9, []run{{7, 8, "a"}}},
		{math.MinInt64, 1, []run{{0, 1, "a"}}},
		{5, math.MaxInt64, []run{{5, 6, "c"}, {6, 8, "a"}}},
		{math.MinInt64, math.MaxInt64, []run{{0, 2, "a"}, {2, 5, "b"}, {5, 6, "c"}, {6, 8, "a"}}},
		{0, 0, nil}, {2, 2, nil}, {3, 3, nil}, {8, 8, nil}, {8, 9, nil}, {9, 12, nil}, {-3, 0, nil}, {-5, -2, nil},
		{5, 3, nil}, {8, 0, nil}, {math.MaxInt64, math.MinInt64, nil}, {math.MaxInt64, math.MaxInt64, nil}, {math.MinInt64, math.MinInt64, nil},
	} {
		if got := told(m, x.lo, x.hi); !slices.Equal(got, x.want) {
			t.Errorf("Runs(%d, %d): %v, want %v", x.lo, x.hi, got, x.want)
		}
	}
}

func TestRunsLeftEarlyAndBegunAgain(t *testing.T) {
	m := letters(t, "abc")
	answer := m.Runs(0, 3)
	for range 2 {
		for r := range answer {
			if r != (run{0, 1, "a"}) {
				t.Error("first:", r)
			}
			break
		}
		wantRuns(t, "whole", slices.Collect(answer), run{0, 1, "a"}, run{1, 2, "b"}, run{2, 3, "c"})
	}
}

func TestRunsTellTheMapAsItWasWhenTheRangingBegan(t *testing.T) {
	m := letters(t, "abc")
	answer := m.Runs(0, 3)
	set(t, m, 0, 1, "x")
	var got []run
	for r := range answer {
		set(t, m, 0, 3, "z")
		set(t, m, r.Lo, r.Hi, "y")
		got = append(got, r)
	}
	wantRuns(t, "the first ranging", got, run{0, 1, "x"}, run{1, 2, "b"}, run{2, 3, "c"})
	wantRuns(t, "the second ranging", slices.Collect(answer), run{0, 2, "z"}, run{2, 3, "y"})
}

func TestRunsSeeNoChangeThatMakesMoreRuns(t *testing.T) {
	m := made(t, 10, 0)
	set(t, m, 5, 10, 1)
	var got []extent.Run[int]
	for r := range m.Runs(0, 10) {
		for i := range int64(10) {
			set(t, m, i, i+1, int(i)+20)
		}
		got = append(got, r)
	}
	wantRuns(t, "the ranging", got, extent.Run[int]{Lo: 0, Hi: 5, V: 0}, extent.Run[int]{Lo: 5, Hi: 10, V: 1})
	if m.Count() != 10 {
		t.Error("Count", m.Count())
	}
}

func TestRunsNested(t *testing.T) {
	m := letters(t, "abc")
	answer := m.Runs(0, 3)
	seen := ""
	for r := range answer {
		for s := range answer {
			seen += r.V + s.V + " "
			if r.V == "b" {
				break
			}
		}
	}
	if seen != "aa ab ac ba ca cb cc " {
		t.Error("nested:", seen)
	}
}

func TestCopy(t *testing.T) {
	for _, row := range []string{"", "a", "aabbc", "abab"} {
		m := letters(t, row)
		c := m.Copy()
		if c == nil || c == m || c.Size() != m.Size() {
			t.Fatalf("Copy of %q: %v", row, c)
		}
		wantRuns(t, "the copy", told(c, 0, c.Size()), told(m, 0, m.Size())...)
		if !extent.Same(m, c) || !extent.Same(m, c.Copy()) {
			t.Errorf("Copy of %q is not the same", row)
		}
	}
}

func TestCopyIsAMapOfItsOwn(t *testing.T) {
	m := letters(t, "aabbc")
	c := m.Copy()
	set(t, m, 0, 2, "x")
	set(t, m, 3, 4, "y")
	wantAll(t, "the copy, its model changed", c, run{0, 2, "a"}, run{2, 4, "b"}, run{4, 5, "c"})
	set(t, c, 2, 5, "z")
	wantAll(t, "the model, its copy changed", m, run{0, 2, "x"}, run{2, 3, "b"}, run{3, 4, "y"}, run{4, 5, "c"})
	wantErr(t, "Set past the copy's end", c.Set(0, 6, "x"), api.ErrRange)
	wantAll(t, "the copy", c, run{0, 2, "a"}, run{2, 5, "z"})
}

func TestSame(t *testing.T) {
	for _, x := range []struct {
		a, b string
		want bool
	}{
		{"", "", true}, {"a", "a", true}, {"aab", "aab", true}, {"abab", "abab", true},
		{"", "a", false}, {"a", "b", false}, {"aab", "abb", false}, {"aab", "aac", false}, {"aab", "cab", false}, {"aab", "acb", false},
		{"aaa", "aab", false}, {"aba", "aaa", false}, {"aa", "aaa", false}, {"ab", "aba", false}, {"ab", "ba", false},
	} {
		a, b := letters(t, x.a), letters(t, x.b)
		if extent.Same(a, b) != x.want || extent.Same(b, a) != x.want {
			t.Errorf("Same of %q and %q is not %v", x.a, x.b, x.want)
		}
	}
}

// The same values are the same, whatever calls led to them.
func TestSameByWhateverCalls(t *testing.T) {
	a, b := made(t, 6, "a"), made(t, 6, "z")
	set(t, a, 2, 4, "b")
	for i := int64(5); i >= 0; i-- {
		set(t, b, i, i+1, "a")
	}
	set(t, b, 1, 5, "q")
	set(t, b, 3, 4, "b")
	set(t, b, 2, 3, "b")
	set(t, b, 1, 2, "a")
	set(t, b, 4, 5, "a")
	if !extent.Same(a, b) {
		t.Error("not the same:", told(a, 0, 6), told(b, 0, 6))
	}
	if m := made(t, 0, "a"); !extent.Same(m, made(t, 0, "b")) || extent.Same(m, a) {
		t.Error("maps of size 0")
	}
}

func TestMapsThatNoCallMade(t *testing.T) {
	for what, m := range map[string]*extent.Map[string]{"nil": nil, "zero": new(extent.Map[string])} {
		wantErr(t, what+" Set(0, 0)", m.Set(0, 0, "x"), api.ErrNil)
		wantErr(t, what+" Set(0, 1)", m.Set(0, 1, "x"), api.ErrNil)
		wantErr(t, what+" Set(-1, 0)", m.Set(-1, 0, "x"), api.ErrNil)
		wantErr(t, what+" Set(1, 0)", m.Set(1, 0, "x"), api.ErrNil)
		if m.Size() != 0 || m.Count() != 0 || m.Copy() != nil {
			t.Error(what, m.Size(), m.Count(), m.Copy())
		}
		for _, i := range []int64{-1, 0, 1} {
			if v, ok := m.At(i); v != "" || ok {
				t.Error(what, "At:", v, ok)
			}
		}
		wantRuns(t, what, told(m, 0, 10))
		wantRuns(t, what, told(m, math.MinInt64, math.MaxInt64))
		if !extent.Same(m, nil) || !extent.Same(nil, m) || !extent.Same(m, new(extent.Map[string])) || !extent.Same(m, m) {
			t.Error(what, "is not the same as none")
		}
		for _, size := range []int64{0, 1} {
			n := made(t, size, "")
			if extent.Same(m, n) || extent.Same(n, m) {
				t.Errorf("%s is the same as one of size %d that New made", what, size)
			}
		}
	}
}

func TestTwoMapsKnowNothingOfOneAnother(t *testing.T) {
	a, b := made(t, 5, "a"), made(t, 5, "a")
	set(t, a, 1, 3, "x")
	wantAll(t, "the other", b, run{0, 5, "a"})
	set(t, b, 0, 5, "y")
	wantAll(t, "the one", a, run{0, 1, "a"}, run{1, 3, "x"}, run{3, 5, "a"})
}
