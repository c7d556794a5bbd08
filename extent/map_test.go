package extent_test

import (
	"math"
	"strconv"
	"testing"

	"spindle/api"
	"spindle/extent"
)

func TestNew(t *testing.T) {
	for _, size := range []int64{1, 2, 10, 1 << 31, 1 << 32, api.MaxExtent - 1, api.MaxExtent} {
		m := made(t, size, "a")
		if m.Size() != size {
			t.Errorf("New(%d): Size %d", size, m.Size())
		}
		wantAll(t, "New("+strconv.FormatInt(size, 10)+")", m, run{0, size, "a"})
	}
}

func TestNewOfSizeZero(t *testing.T) {
	m := made(t, 0, 7)
	wantAll(t, "New(0, 7)", m)
	if m.Size() != 0 {
		t.Error("Size", m.Size())
	}
	if v, ok := m.At(0); v != 0 || ok {
		t.Error("At(0):", v, ok)
	}
	wantErr(t, "Set(0, 0)", m.Set(0, 0, 1), api.OK)
	wantErr(t, "Set(0, 1)", m.Set(0, 1, 1), api.ErrRange)
	wantErr(t, "Set(1, 1)", m.Set(1, 1, 1), api.ErrRange)
	wantAll(t, "behind it", m)
	wantRuns(t, "Runs(-5, 5)", told(m, -5, 5))
}

func TestNewOfSizesThatCannotBe(t *testing.T) {
	for _, size := range []int64{-1, -2, math.MinInt64, api.MaxExtent + 1, api.MaxExtent + 2, math.MaxInt64} {
		m, e := extent.New(size, 7)
		wantErr(t, "New("+strconv.FormatInt(size, 10)+")", e, api.ErrSize)
		if m != nil {
			t.Errorf("New(%d): a map beside an error", size)
		}
	}
}

func TestExample1(t *testing.T) {
	m := made(t, 10, "a")
	set(t, m, 2, 5, "b")
	set(t, m, 4, 7, "c")
	wantAll(t, "all", m, run{0, 2, "a"}, run{2, 4, "b"}, run{4, 7, "c"}, run{7, 10, "a"})
	wantRuns(t, "Runs(3, 6)", told(m, 3, 6), run{3, 4, "b"}, run{4, 6, "c"})
	set(t, m, 2, 4, "a")
	wantAll(t, "behind Set(2, 4, a)", m, run{0, 4, "a"}, run{4, 7, "c"}, run{7, 10, "a"})
}

func TestExample2(t *testing.T) {
	m := made(t, 10, "a")
	for _, r := range [][2]int64{{5, 11}, {4, 3}, {-1, 2}} {
		wantErr(t, "Set", m.Set(r[0], r[1], "x"), api.ErrRange)
	}
	wantErr(t, "Set(10, 10)", m.Set(10, 10, "x"), api.OK)
	wantAll(t, "behind it", m, run{0, 10, "a"})
	if v, ok := m.At(10); v != "" || ok {
		t.Error("At(10):", v, ok)
	}
}

func TestSetRefusesWhatIsNoRangeOfTheMap(t *testing.T) {
	m := letters(t, "aabbc")
	for _, r := range [][2]int64{
		{-1, 0}, {-1, -1}, {-1, 5}, {0, 6}, {5, 6}, {6, 6}, {6, 5}, {1, 0}, {5, 4}, {5, 0}, {0, -1}, {-2, -1}, {7, 9},
		{math.MinInt64, 0}, {0, math.MinInt64}, {0, math.MaxInt64}, {math.MaxInt64, 0},
		{math.MinInt64, math.MaxInt64}, {math.MaxInt64, math.MinInt64},
		{math.MaxInt64, math.MaxInt64}, {math.MinInt64, math.MinInt64},
	} {
		what := "Set(" + strconv.FormatInt(r[0], 10) + ", " + strconv.FormatInt(r[1], 10) + ")"
		wantErr(t, what, m.Set(r[0], r[1], "x"), api.ErrRange)
		wantAll(t, "behind "+what, m, run{0, 2, "a"}, run{2, 4, "b"}, run{4, 5, "c"})
	}
}

func TestSetOfNoPlace(t *testing.T) {
	m := letters(t, "aabbc")
	for i := range int64(6) {
		for _, v := range []string{"a", "b", "x"} {
			wantErr(t, "Set of no place", m.Set(i, i, v), api.OK)
			wantAll(t, "behind it", m, run{0, 2, "a"}, run{2, 4, "b"}, run{4, 5, "c"})
		}
	}
}

func TestSetGrowsTogetherWithItsNeighbours(t *testing.T) {
	for _, x := range []struct {
		what   string
		row    string
		lo, hi int64
		v      string
		want   []run
	}{
		{"inside of a run", "aaaa", 1, 3, "b", []run{{0, 1, "a"}, {1, 3, "b"}, {3, 4, "a"}}},
		{"the same inside of a run", "aaaa", 1, 3, "a", []run{{0, 4, "a"}}},
		{"the beginning of a run", "aaaa", 0, 1, "b", []run{{0, 1, "b"}, {1, 4, "a"}}},
		{"the end of a run", "aaaa", 3, 4, "b", []run{{0, 3, "a"}, {3, 4, "b"}}},
		{"a whole run", "abbc", 1, 3, "d", []run{{0, 1, "a"}, {1, 3, "d"}, {3, 4, "c"}}},
		{"a whole run, as the one ahead", "abbc", 1, 3, "a", []run{{0, 3, "a"}, {3, 4, "c"}}},
		{"a whole run, as the one behind", "abbc", 1, 3, "c", []run{{0, 1, "a"}, {1, 4, "c"}}},
		{"a whole run, as both beside", "abba", 1, 3, "a", []run{{0, 4, "a"}}},
		{"the beginning, as the one ahead", "aabb", 2, 3, "a", []run{{0, 3, "a"}, {3, 4, "b"}}},
		{"the end, as the one behind", "aabb", 1, 2, "b", []run{{0, 1, "a"}, {1, 4, "b"}}},
		{"over a border, as the first", "aabb", 1, 3, "a", []run{{0, 3, "a"}, {3, 4, "b"}}},
		{"over a border, as the second", "aabb", 1, 3, "b", []run{{0, 1, "a"}, {1, 4, "b"}}},
		{"over many runs", "abcdef", 1, 5, "x", []run{{0, 1, "a"}, {1, 5, "x"}, {5, 6, "f"}}},
		{"over many runs, as both beside", "abcdea", 1, 5, "a", []run{{0, 6, "a"}}},
		{"not with the next but one", "abab", 1, 2, "x", []run{{0, 1, "a"}, {1, 2, "x"}, {2, 3, "a"}, {3, 4, "b"}}},
		{"all", "abcdef", 0, 6, "z", []run{{0, 6, "z"}}},
		{"all, as the last", "abcdef", 0, 6, "f", []run{{0, 6, "f"}}},
		{"one place of one", "a", 0, 1, "b", []run{{0, 1, "b"}}},
	} {
		m := letters(t, x.row)
		set(t, m, x.lo, x.hi, x.v)
		wantAll(t, x.what, m, x.want...)
	}
}

func TestAt(t *testing.T) {
	m := letters(t, "aabbc")
	for i, want := range []string{"a", "a", "b", "b", "c"} {
		if v, ok := m.At(int64(i)); v != want || !ok {
			t.Errorf("At(%d): %q, %v", i, v, ok)
		}
	}
	for _, i := range []int64{-1, -2, math.MinInt64, 5, 6, api.MaxExtent, math.MaxInt64} {
		if v, ok := m.At(i); v != "" || ok {
			t.Errorf("At(%d): %q, %v", i, v, ok)
		}
	}
}

func TestTheLargestMap(t *testing.T) {
	const end = api.MaxExtent
	m := made(t, end, "a")
	set(t, m, 0, 1, "b")
	set(t, m, end-1, end, "c")
	set(t, m, 1<<32, 1<<33, "d")
	wantAll(t, "all", m, run{0, 1, "b"}, run{1, 1 << 32, "a"}, run{1 << 32, 1 << 33, "d"}, run{1 << 33, end - 1, "a"}, run{end - 1, end, "c"})
	wantErr(t, "Set one past the end", m.Set(end-1, end+1, "x"), api.ErrRange)
	wantErr(t, "Set of no place at the end", m.Set(end, end, "x"), api.OK)
	if v, ok := m.At(end); v != "" || ok {
		t.Error("At the end:", v, ok)
	}
	set(t, m, 0, end, "e")
	wantAll(t, "all of one value", m, run{0, end, "e"})
}

func TestValuesOfEveryKind(t *testing.T) {
	type pair struct {
		n int
		s string
	}
	p := made(t, 4, pair{1, "x"})
	set(t, p, 1, 2, pair{1, "y"})
	wantAll(t, "structs", p, extent.Run[pair]{0, 1, pair{1, "x"}}, extent.Run[pair]{1, 2, pair{1, "y"}}, extent.Run[pair]{2, 4, pair{1, "x"}})
	set(t, p, 1, 2, pair{1, "x"})
	wantAll(t, "structs joined", p, extent.Run[pair]{0, 4, pair{1, "x"}})

	b := made(t, 3, [2]byte{})
	set(t, b, 0, 2, [2]byte{0, 1})
	wantAll(t, "arrays", b, extent.Run[[2]byte]{0, 2, [2]byte{0, 1}}, extent.Run[[2]byte]{2, 3, [2]byte{}})

	x, y := new(int), new(int)
	q := made(t, 3, x)
	set(t, q, 0, 2, y)
	wantAll(t, "pointers", q, extent.Run[*int]{0, 2, y}, extent.Run[*int]{2, 3, x})

	a := made[any](t, 3, 1)
	set[any](t, a, 1, 2, "1")
	set[any](t, a, 2, 3, int64(1))
	wantAll(t, "interfaces", a, extent.Run[any]{0, 1, 1}, extent.Run[any]{1, 2, "1"}, extent.Run[any]{2, 3, int64(1)})
}

// Values that are not the same as themselves, or that cannot be compared at all: calls end, and none panics.
func TestValuesThatAreNotTheSameAsThemselves(t *testing.T) {
	f := made(t, 10, math.NaN())
	set(t, f, 2, 5, math.NaN())
	told(f, 0, 10)
	extent.Same(f, f.Copy())

	a := made[any](t, 10, []int{1})
	set[any](t, a, 2, 5, []int{1})
	set[any](t, a, 3, 4, map[int]int{})
	set[any](t, a, 5, 6, 7)
	if v, ok := a.At(5); v != 7 || !ok {
		t.Error("At(5):", v, ok)
	}
	told(a, 0, 10)
	extent.Same(a, a.Copy())
	extent.Same(a, a)
}

// A map and a plain row of values, changed alike, are alike.
func TestMapAgainstARow(t *testing.T) {
	const size = 24
	d := dice(1)
	for range 300 {
		m := made(t, size, 0)
		var row [size]int
		for range 30 {
			lo, hi, v := int64(d.below(size+5)-2), int64(d.below(size+5)-2), d.below(3)
			right := 0 <= lo && lo <= hi && hi <= size
			if e := m.Set(lo, hi, v); (e == api.OK) != right || !right && e != api.ErrRange {
				t.Fatalf("Set(%d, %d, %d): error %d", lo, hi, v, e)
			}
			for i := lo; right && i < hi; i++ {
				row[i] = v
			}
			wantAll(t, "all", m, runsOf(row[:], 0, size)...)
			lo, hi = int64(d.below(size+9)-4), int64(d.below(size+9)-4)
			wantRuns(t, "a part", told(m, lo, hi), runsOf(row[:], lo, hi)...)
			if t.Failed() {
				t.Fatalf("behind row %v", row)
			}
		}
	}
}

// runsOf reckons place by place what Runs must tell of a row.
func runsOf(row []int, lo, hi int64) []extent.Run[int] {
	var l []extent.Run[int]
	for i, v := range row {
		at := int64(i)
		if at < lo || at >= hi {
			continue
		}
		if n := len(l); n > 0 && l[n-1].V == v {
			l[n-1].Hi = at + 1
		} else {
			l = append(l, extent.Run[int]{Lo: at, Hi: at + 1, V: v})
		}
	}
	return l
}

// Many runs, wide apart: nobody counts places.
func TestManyRuns(t *testing.T) {
	const n, step = 20000, api.MaxExtent / 20000
	m := made(t, api.MaxExtent, -1)
	for i := range n {
		set(t, m, int64(i)*step, int64(i)*step+1, i)
	}
	if m.Count() != 2*n {
		t.Error("Count", m.Count())
	}
	at := 0
	for r := range m.Runs(0, api.MaxExtent) {
		if want := int64(at/2)*step + int64(at%2); r.Lo != want {
			t.Fatalf("run %d begins at %d, not at %d", at, r.Lo, want)
		}
		at++
	}
	if at != 2*n || !extent.Same(m, m.Copy()) {
		t.Error("ranged over", at)
	}
	for i := n - 1; i >= 0; i-- {
		set(t, m, int64(i)*step, int64(i)*step+1, -1)
	}
	wantAll(t, "all of one value again", m, extent.Run[int]{Lo: 0, Hi: api.MaxExtent, V: -1})
}
