package backup_test

import (
	"fmt"
	"math"
	"testing"

	"spindle/api"
)

// P25.6: runs of both, beside, over and within one another.
func TestJoin(t *testing.T) {
	for _, x := range []struct {
		name   string
		a, b   []run
		wanted []run
	}{
		{"none", nil, nil, nil},
		{"none over data", []run{data(2, "abcd")}, nil, []run{data(2, "abcd")}},
		{"none over a hole", []run{hole(2, 4)}, nil, []run{hole(2, 4)}},
		{"data over none", nil, []run{data(2, "ABCD")}, []run{data(2, "ABCD")}},
		{"a hole over none", nil, []run{hole(2, 4)}, []run{hole(2, 4)}},
		{"the same place, data", []run{data(2, "abcd")}, []run{data(2, "ABCD")}, []run{data(2, "ABCD")}},
		{"the same place, a hole over data", []run{data(2, "abcd")}, []run{hole(2, 4)}, []run{hole(2, 4)}},
		{"the same place, data over a hole", []run{hole(2, 4)}, []run{data(2, "ABCD")}, []run{data(2, "ABCD")}},
		{"the same place, holes", []run{hole(2, 4)}, []run{hole(2, 4)}, []run{hole(2, 4)}},

		{"apart, behind", []run{data(1, "ab")}, []run{data(6, "AB")}, []run{data(1, "ab"), data(6, "AB")}},
		{"apart, ahead", []run{data(6, "ab")}, []run{data(1, "AB")}, []run{data(1, "AB"), data(6, "ab")}},
		{"a byte apart", []run{data(1, "ab")}, []run{data(4, "AB")}, []run{data(1, "ab"), data(4, "AB")}},
		{"holes a byte apart", []run{hole(1, 2)}, []run{hole(4, 2)}, []run{hole(1, 2), hole(4, 2)}},
		{"beside, behind, alike", []run{data(1, "ab")}, []run{data(3, "AB")}, []run{data(1, "abAB")}},
		{"beside, ahead, alike", []run{data(3, "ab")}, []run{data(1, "AB")}, []run{data(1, "ABab")}},
		{"beside, holes", []run{hole(1, 2)}, []run{hole(3, 2)}, []run{hole(1, 4)}},
		{"beside, holes, ahead", []run{hole(3, 2)}, []run{hole(1, 2)}, []run{hole(1, 4)}},
		{"beside, not alike", []run{data(1, "ab")}, []run{hole(3, 2)}, []run{data(1, "ab"), hole(3, 2)}},
		{"beside, not alike, ahead", []run{data(3, "ab")}, []run{hole(1, 2)}, []run{hole(1, 2), data(3, "ab")}},
		{"between two, alike", []run{data(1, "ab"), data(5, "cd")}, []run{data(3, "AB")}, []run{data(1, "abABcd")}},
		{"between two holes, alike", []run{hole(1, 2), hole(5, 2)}, []run{hole(3, 2)}, []run{hole(1, 6)}},
		{"between two, not alike", []run{data(1, "ab"), data(5, "cd")}, []run{hole(3, 2)}, []run{data(1, "ab"), hole(3, 2), data(5, "cd")}},
		{"between two, a byte free", []run{data(1, "ab"), data(6, "cd")}, []run{data(3, "AB")}, []run{data(1, "abAB"), data(6, "cd")}},

		{"over all", []run{data(2, "ab"), hole(4, 2), data(7, "c")}, []run{data(1, "ABCDEFGH")}, []run{data(1, "ABCDEFGH")}},
		{"a hole over all", []run{data(2, "ab"), hole(4, 2), data(7, "c")}, []run{hole(0, 10)}, []run{hole(0, 10)}},
		{"over the front", []run{data(2, "abcd")}, []run{data(1, "AB")}, []run{data(1, "ABbcd")}},
		{"over the end", []run{data(2, "abcd")}, []run{data(5, "AB")}, []run{data(2, "abcAB")}},
		{"over the front of a hole", []run{hole(2, 4)}, []run{data(1, "AB")}, []run{data(1, "AB"), hole(3, 3)}},
		{"over the end of a hole", []run{hole(2, 4)}, []run{data(5, "AB")}, []run{hole(2, 3), data(5, "AB")}},
		{"a hole over the front", []run{data(2, "abcd")}, []run{hole(1, 2)}, []run{hole(1, 2), data(3, "bcd")}},
		{"a hole over the end", []run{data(2, "abcd")}, []run{hole(5, 2)}, []run{data(2, "abc"), hole(5, 2)}},
		{"just the front", []run{data(2, "abcd")}, []run{data(2, "A")}, []run{data(2, "Abcd")}},
		{"just the end", []run{data(2, "abcd")}, []run{data(5, "D")}, []run{data(2, "abcD")}},
		{"within, alike", []run{data(2, "abcd")}, []run{data(3, "BC")}, []run{data(2, "aBCd")}},
		{"within, holes", []run{hole(2, 4)}, []run{hole(3, 2)}, []run{hole(2, 4)}},
		{"a hole within", []run{data(2, "abcd")}, []run{hole(3, 2)}, []run{data(2, "a"), hole(3, 2), data(5, "d")}},
		{"data within a hole", []run{hole(2, 4)}, []run{data(3, "BC")}, []run{hole(2, 1), data(3, "BC"), hole(5, 1)}},
		{"many within one", []run{data(0, "abcdefghij")}, []run{hole(1, 1), data(3, "D"), hole(5, 1), data(6, "G"), hole(9, 1)},
			[]run{data(0, "a"), hole(1, 1), data(2, "cDe"), hole(5, 1), data(6, "Ghi"), hole(9, 1)}},
		{"one over the end of one and the front of the next", []run{data(0, "abcd"), hole(4, 4)}, []run{data(3, "AB")}, []run{data(0, "abcAB"), hole(5, 3)}},
		{"a hole over the end of one and the front of the next", []run{data(0, "abcd"), hole(4, 4)}, []run{hole(3, 2)}, []run{data(0, "abc"), hole(3, 5)}},
		{"one that covers the gap between others", []run{data(0, "ab"), data(8, "cd")}, []run{data(1, "ABCDEFGH")}, []run{data(0, "aABCDEFGHd")}},
		{"data that are bytes 0 stay data", []run{hole(2, 4)}, []run{data(3, zeros(2))}, []run{hole(2, 1), data(3, zeros(2)), hole(5, 1)}},
	} {
		a, b := since(2, 1, 10, x.a...), since(3, 2, 10, x.b...)
		wantJoined(t, x.name, a, b, since(3, 1, 10, x.wanted...))
		holdPair(t, x.name, a, b)
	}
}

// P25.6: with a whole one the whole is whole.
func TestJoinWithAWholeOne(t *testing.T) {
	for _, x := range []struct {
		name   string
		b      []run
		wanted []run
	}{
		{"none", nil, []run{data(0, "abc"), hole(3, 3)}},
		{"data over the hole", []run{data(3, "DEF")}, []run{data(0, "abcDEF")}},
		{"a hole over the data", []run{hole(0, 3)}, []run{hole(0, 6)}},
		{"both", []run{hole(0, 2), data(5, "F")}, []run{hole(0, 2), data(2, "c"), hole(3, 2), data(5, "F")}},
	} {
		joined := wantJoined(t, x.name, full(1, data(0, "abc"), hole(3, 3)), since(2, 1, 6, x.b...), full(2, x.wanted...))
		want(t, x.name+": Parent", joined.Parent, 0)
	}
}

// P25.6: the refusals.
func TestJoinRefuses(t *testing.T) {
	a, b := since(2, 1, 8, data(0, "ab")), since(3, 2, 8, hole(1, 3))
	wantJoined(t, "both right", a, b, since(3, 1, 8, data(0, "a"), hole(1, 3)))
	for _, x := range []struct {
		name string
		a, b archive
	}{
		{"b's Parent is another ID", a, since(3, 4, 8)},
		{"b's Parent is a's Parent", a, since(3, 1, 8)},
		{"b is whole", a, full(3, hole(0, 8))},
		{"both are whole", full(1, hole(0, 8)), full(3, hole(0, 8))},
		{"b's Parent is one more than a's ID", a, since(4, 3, 8)},
		{"b's Size is one more", a, since(3, 2, 9)},
		{"b's Size is one less", a, since(3, 2, 7)},
		{"b's Size is another, a whole one", full(2, data(0, "ab")), since(3, 2, 3)},
		{"b's ID is a's Parent", a, since(1, 2, 8)},
		{"b's ID is a's Parent, the highest", since(2, math.MaxUint64, 8), since(math.MaxUint64, 2, 8)},
		{"the other way round", b, a},
		{"twice the same", a, a},
		{"twice the same whole one", full(1, hole(0, 8)), full(1, hole(0, 8))},
	} {
		wantNotJoined(t, x.name, x.a, x.b, api.ErrLink)
	}
}

// P25.6, R3: ErrArchive comes ahead of ErrLink, whichever it is that may not be.
func TestJoinRefusesInOrder(t *testing.T) {
	wrong := []archive{{}, since(2, 2, 8), since(3, 2, 8, hole(3, 0)), since(3, 2, most+1), {ID: 3, Size: 8}}
	for n, x := range wrong {
		for _, right := range []archive{since(2, 1, 8), since(3, 2, 8), full(2, hole(0, 8)), since(9, 8, 7)} {
			wantNotJoined(t, fmt.Sprint("wrong one ", n, " first"), x, right, api.ErrArchive)
			wantNotJoined(t, fmt.Sprint("wrong one ", n, " second"), right, x, api.ErrArchive)
		}
		for k, y := range wrong {
			wantNotJoined(t, fmt.Sprint("wrong ones ", n, " and ", k), x, y, api.ErrArchive)
		}
	}
}

// P25.7: of each, and of one that may not be.
func TestChanged(t *testing.T) {
	for _, x := range []struct {
		name   string
		a      archive
		wanted ranges
	}{
		{"nothing", since(2, 1, 8), nil},
		{"a whole one of data", full(1, data(0, "abcd")), ranges{{Lo: 0, Hi: 4}}},
		{"a whole one of both", full(1, data(0, "abcd"), hole(4, 3), data(7, "e")), ranges{{Lo: 0, Hi: 8}}},
		{"data", since(2, 1, 8, data(2, "abc")), ranges{{Lo: 2, Hi: 5}}},
		{"a hole", since(2, 1, 8, hole(2, 3)), ranges{{Lo: 2, Hi: 5}}},
		{"one byte at each end", since(2, 1, 8, data(0, "a"), data(7, "b")), ranges{{Lo: 0, Hi: 1}, {Lo: 7, Hi: 8}}},
		{"apart by a byte", since(2, 1, 8, data(0, "a"), hole(2, 1), data(4, "b")), ranges{{Lo: 0, Hi: 1}, {Lo: 2, Hi: 3}, {Lo: 4, Hi: 5}}},
		{"touching", since(2, 1, 8, data(1, "a"), hole(2, 1), data(3, "b")), ranges{{Lo: 1, Hi: 4}}},
		{"touching, then apart", since(2, 1, 9, hole(0, 2), data(2, "a"), hole(4, 2), data(6, "bc"), hole(8, 1)), ranges{{Lo: 0, Hi: 3}, {Lo: 4, Hi: 9}}},
		{"of the greatest size", since(2, 1, most, data(0, "a"), hole(most-1, 1)), ranges{{Lo: 0, Hi: 1}, {Lo: most - 1, Hi: most}}},
		{"all of the greatest size", full(1, hole(0, most)), ranges{{Lo: 0, Hi: most}}},
		{"none", archive{}, nil},
		{"one that may not be", since(2, 1, 8, data(1, "a"), data(2, "b")), nil},
		{"one that may not be, by its number alone", since(0, 1, 8, data(1, "a")), nil},
	} {
		wantRanges(t, x.name, changedOf(t, x.a), x.wanted)
	}
}
