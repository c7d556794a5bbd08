package extent_test

import (
	"math"
	"slices"
	"testing"

	"spindle/api"
	"spindle/extent"
)

const end = api.MaxExtent

type ranges = []api.Range

// of gives the list of the ranges whose ends are told one behind the other.
func of(ends ...int64) ranges {
	var l ranges
	for pair := range slices.Chunk(ends, 2) {
		l = append(l, api.Range{Lo: pair[0], Hi: pair[1]})
	}
	return l
}

func TestExamples4To6(t *testing.T) {
	l := of(5, 9, -3, 2, 2, 4, 7, 12, 3, 3)
	n := extent.Normal(l)
	wantRanges(t, "Normal", n, of(0, 4, 5, 12)...)
	if extent.Sum(n) != 11 {
		t.Error("Sum", extent.Sum(n))
	}
	wantRanges(t, "Minus", extent.Minus(of(0, 10), of(3, 5)), of(0, 3, 5, 10)...)
	wantRanges(t, "Meet", extent.Meet(of(0, 4, 6, 9), of(2, 7)), of(2, 4, 6, 7)...)
	wantRanges(t, "Union", extent.Union(of(0, 2), of(2, 3)), of(0, 3)...)
	wantRanges(t, "Normal of none", extent.Normal(of(1<<62, -1<<62)))
	wantRanges(t, "Normal beyond the end", extent.Normal(of(end, end+5)))
}

func TestNormal(t *testing.T) {
	for _, x := range []struct {
		what string
		l    ranges
		want ranges
	}{
		{"nil", nil, nil},
		{"empty", ranges{}, nil},
		{"one", of(3, 5), of(3, 5)},
		{"one place", of(3, 4), of(3, 4)},
		{"no place", of(3, 3, 5, 4, 0, 0, end, end), nil},
		{"apart", of(0, 1, 2, 3), of(0, 1, 2, 3)},
		{"apart, falling", of(2, 3, 0, 1), of(0, 1, 2, 3)},
		{"touching", of(0, 2, 2, 3), of(0, 3)},
		{"touching, falling", of(2, 3, 0, 2), of(0, 3)},
		{"overlapping", of(0, 5, 3, 8), of(0, 8)},
		{"one in the other", of(0, 9, 3, 5), of(0, 9)},
		{"one in the other, the inner first", of(3, 5, 0, 9), of(0, 9)},
		{"the same beginning", of(3, 9, 3, 5), of(3, 9)},
		{"the same beginning, the shorter first", of(3, 5, 3, 9), of(3, 9)},
		{"twice", of(3, 5, 3, 5), of(3, 5)},
		{"a gap filled", of(0, 2, 4, 6, 2, 4), of(0, 6)},
		{"over several", of(0, 1, 2, 3, 4, 5, 1, 8), of(0, 8)},
		{"no place between", of(0, 2, 2, 2, 3, 4), of(0, 2, 3, 4)},
		{"below 0", of(-5, -1, -5, 0, math.MinInt64, -7, math.MinInt64, 0), nil},
		{"from below 0 on", of(-5, 1), of(0, 1)},
		{"to the end", of(end-1, end), of(end-1, end)},
		{"over the end", of(end-1, end+1), of(end-1, end)},
		{"from the end on", of(end, end+1, end+3, math.MaxInt64, math.MaxInt64, math.MaxInt64), nil},
		{"all", of(math.MinInt64, math.MaxInt64), of(0, end)},
		{"all, turned round", of(math.MaxInt64, math.MinInt64), nil},
		{"all of two", of(math.MinInt64, 7, 7, math.MaxInt64), of(0, end)},
	} {
		got := extent.Normal(x.l)
		wantRanges(t, "Normal, "+x.what, got, x.want...)
		wantRanges(t, "Normal twice, "+x.what, extent.Normal(got), x.want...)
		var sum int64
		for _, r := range x.want {
			sum += r.Hi - r.Lo
		}
		if extent.Sum(x.l) != sum || extent.Sum(got) != sum {
			t.Errorf("Sum, %s: %d and %d, want %d", x.what, extent.Sum(x.l), extent.Sum(got), sum)
		}
	}
}

func TestUnionMinusMeet(t *testing.T) {
	for _, x := range []struct {
		what               string
		a, b               ranges
		union, minus, meet ranges
	}{
		{"none", nil, nil, nil, nil, nil},
		{"the second one empty", of(1, 3), ranges{}, of(1, 3), of(1, 3), nil},
		{"the first one empty", ranges{}, of(1, 3), of(1, 3), nil, nil},
		{"the same", of(1, 3), of(1, 3), of(1, 3), nil, of(1, 3)},
		{"touching", of(1, 3), of(3, 5), of(1, 5), of(1, 3), nil},
		{"apart", of(1, 3), of(4, 5), of(1, 3, 4, 5), of(1, 3), nil},
		{"the second one within", of(0, 10), of(3, 5), of(0, 10), of(0, 3, 5, 10), of(3, 5)},
		{"the first one within", of(3, 5), of(0, 10), of(0, 10), nil, of(3, 5)},
		{"at the beginning", of(0, 10), of(0, 5), of(0, 10), of(5, 10), of(0, 5)},
		{"at the end", of(0, 10), of(5, 10), of(0, 10), of(0, 5), of(5, 10)},
		{"over gaps", of(0, 4, 6, 9), of(2, 7), of(0, 9), of(0, 2, 7, 9), of(2, 4, 6, 7)},
		{"not normal", of(6, 9, 0, 3, 2, 4, 5, 1), of(4, 7, 2, 5, -9, -1), of(0, 9), of(0, 2, 7, 9), of(2, 4, 6, 7)},
		{"alternating", of(0, 1, 2, 3, 4, 5), of(1, 2, 3, 4), of(0, 5), of(0, 1, 2, 3, 4, 5), nil},
		{"beyond both ends", of(-5, 2, end-2, end+5), of(-9, 1, end-1, math.MaxInt64), of(0, 2, end-2, end), of(1, 2, end-2, end-1), of(0, 1, end-1, end)},
		{"all less all", of(math.MinInt64, math.MaxInt64), of(0, end), of(0, end), nil, of(0, end)},
		{"all less none", of(math.MinInt64, math.MaxInt64), of(end, math.MaxInt64, math.MinInt64, 0), of(0, end), of(0, end), nil},
		{"all less one place", of(0, end), of(7, 8), of(0, end), of(0, 7, 8, end), of(7, 8)},
	} {
		wantRanges(t, "Union, "+x.what, extent.Union(x.a, x.b), x.union...)
		wantRanges(t, "Union turned round, "+x.what, extent.Union(x.b, x.a), x.union...)
		wantRanges(t, "Minus, "+x.what, extent.Minus(x.a, x.b), x.minus...)
		wantRanges(t, "Meet, "+x.what, extent.Meet(x.a, x.b), x.meet...)
		wantRanges(t, "Meet turned round, "+x.what, extent.Meet(x.b, x.a), x.meet...)
	}
}

// places are all places near the beginning of the row, which a set has or has not.
type places [20]bool

func placesOf(l ranges) (p places) {
	for i := range p {
		p[i] = slices.ContainsFunc(l, func(r api.Range) bool { return r.Lo <= int64(i) && int64(i) < r.Hi })
	}
	return p
}

// where reckons place by place the normal list that is wanted.
func where(pick func(i int) bool) ranges {
	var l ranges
	for i := range len(places{}) {
		at := int64(i)
		if !pick(i) {
			continue
		}
		if n := len(l); n > 0 && l[n-1].Hi == at {
			l[n-1].Hi++
		} else {
			l = append(l, api.Range{Lo: at, Hi: at + 1})
		}
	}
	return l
}

func TestSetsAgainstPlaces(t *testing.T) {
	d := dice(2)
	some := func() ranges {
		var l ranges
		for range d.below(6) {
			l = append(l, api.Range{Lo: int64(d.below(24) - 4), Hi: int64(d.below(25) - 4)})
		}
		return l
	}
	for range 3000 {
		a, b := some(), some()
		p, q := placesOf(a), placesOf(b)
		normal := where(func(i int) bool { return p[i] })
		wantRanges(t, "Normal", extent.Normal(a), normal...)
		wantRanges(t, "Union", extent.Union(a, b), where(func(i int) bool { return p[i] || q[i] })...)
		wantRanges(t, "Minus", extent.Minus(a, b), where(func(i int) bool { return p[i] && !q[i] })...)
		wantRanges(t, "Meet", extent.Meet(a, b), where(func(i int) bool { return p[i] && q[i] })...)
		var sum int64
		for _, r := range normal {
			sum += r.Hi - r.Lo
		}
		if extent.Sum(a) != sum {
			t.Error("Sum:", extent.Sum(a), "want", sum)
		}
		if t.Failed() {
			t.Fatal("of", a, b)
		}
	}
}

// Sets of many ranges, in whatever order they are told: nobody counts places.
func TestSetsOfManyRanges(t *testing.T) {
	const n, step = 30000, end / 30000
	var even, odd, want ranges
	for i := range int64(n) {
		r := api.Range{Lo: i * step, Hi: i*step + step/2}
		want = append(want, r)
		if i%2 == 0 {
			even = append(even, r)
		} else {
			odd = append(odd, r)
		}
	}
	slices.Reverse(even)
	d := dice(3)
	for i := range odd {
		k := d.below(i + 1)
		odd[i], odd[k] = odd[k], odd[i]
	}
	both := extent.Union(even, odd)
	wantRanges(t, "Union", both, want...)
	wantRanges(t, "Minus", extent.Union(extent.Minus(both, even), extent.Minus(both, odd)), want...)
	wantRanges(t, "Meet", extent.Meet(even, odd))
	if extent.Sum(both) != n*(step/2) {
		t.Error("Sum", extent.Sum(both))
	}
}

// roomy gives a list with room behind it, in which ranges stand that nobody may use or change.
func roomy(ends ...int64) ranges {
	l := of(ends...)
	out := append(make(ranges, 0, len(l)+3), l...)
	for i := len(l); i < cap(out); i++ {
		out[:cap(out)][i] = api.Range{Lo: 1000 + 10*int64(i), Hi: 1001 + 10*int64(i)}
	}
	return out
}

func spoil(l ranges) {
	l = l[:cap(l)]
	for i := range l {
		l[i] = api.Range{Lo: 777, Hi: 778}
	}
}

func TestSetsLeaveWhatIsHandedIn(t *testing.T) {
	for what, call := range map[string]func(a, b ranges) ranges{
		"Normal": func(a, b ranges) ranges { return extent.Normal(a) },
		"Union":  extent.Union,
		"Minus":  extent.Minus,
		"Meet":   extent.Meet,
		"Sum":    func(a, b ranges) ranges { return of(0, extent.Sum(a)) },
	} {
		for _, lists := range [][2]ranges{
			{roomy(8, 9, -3, 4, 2, 6), roomy(5, 7, 0, 1)},
			{roomy(1, 3, 5, 7), roomy()},
			{roomy(1, 3, 5, 7), roomy(0, 9)},
		} {
			a, b := lists[0], lists[1]
			wasA, wasB := slices.Clone(a[:cap(a)]), slices.Clone(b[:cap(b)])
			got := call(a, b)
			want := slices.Clone(got)
			if !slices.Equal(a[:cap(a)], wasA) || !slices.Equal(b[:cap(b)], wasB) {
				t.Error(what, "changed what was handed in")
			}
			other := call(a, b)
			spoil(other)
			wantRanges(t, what+", another answer spoilt", got, want...)
			wantRanges(t, what+", again", call(a, b), want...)
			spoil(a)
			spoil(b)
			wantRanges(t, what+", what was handed in spoilt", got, want...)
		}
	}
}

// The same list may be handed in twice.
func TestSetsOfOneListTwice(t *testing.T) {
	l := roomy(5, 9, 1, 3)
	want := of(1, 3, 5, 9)
	wantRanges(t, "Union", extent.Union(l, l), want...)
	wantRanges(t, "Meet", extent.Meet(l, l), want...)
	wantRanges(t, "Minus", extent.Minus(l, l))
}
