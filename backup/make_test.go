package backup_test

import (
	"fmt"
	"math"
	"testing"

	"spindle/api"
)

// P25.2: whole ones have all bytes, dirty or not; touching runs that are alike are one.
func TestMakeWhole(t *testing.T) {
	for _, x := range []struct {
		name   string
		device string
		l      []extent
		wanted []run
	}{
		{"one byte", "a", row(laidOut(1)), []run{data(0, "a")}},
		{"one byte of a hole", zeros(1), row(empty(1)), []run{hole(0, 1)}},
		{"a byte 0 that is laid out", zeros(1), row(laidOut(1)), []run{data(0, zeros(1))}},
		{"a hole and data", zeros(4) + "abcd", row(empty(4), laidOut(4)), []run{hole(0, 4), data(4, "abcd")}},
		{"data and a hole", "abcd" + zeros(4), row(laidOut(4), empty(4)), []run{data(0, "abcd"), hole(4, 4)}},
		{"data that touch", "abcdef", row(laidOut(1), laidOut(2), laidOut(3)), []run{data(0, "abcdef")}},
		{"holes that touch", zeros(6), row(empty(1), empty(2), empty(3)), []run{hole(0, 6)}},
		{"data that touch, dirty or not, unsaved or not", "abcdefg", row(laidOut(2), dirty(laidOut(2)), unsaved(laidOut(2)), dirty(unsaved(laidOut(1)))), []run{data(0, "abcdefg")}},
		{"holes that touch, dirty or not, unsaved or not", zeros(7), row(dirty(empty(2)), empty(2), unsaved(empty(2)), dirty(unsaved(empty(1)))), []run{hole(0, 7)}},
		{"all of them", "ab" + zeros(5) + "cde" + zeros(2) + "f",
			row(dirty(laidOut(1)), laidOut(1), empty(2), dirty(empty(3)), laidOut(2), dirty(laidOut(1)), dirty(empty(2)), unsaved(laidOut(1))),
			[]run{data(0, "ab"), hole(2, 5), data(7, "cde"), hole(10, 2), data(12, "f")}},
		{"bytes 0 that are laid out beside holes", zeros(6), row(empty(2), laidOut(2), empty(2)), []run{hole(0, 2), data(2, zeros(2)), hole(4, 2)}},
	} {
		wantMade(t, x.name, 5, 0, x.device, x.l, full(5, x.wanted...))
	}
}

// P25.2: with a parent what is dirty alone.
func TestMakeOfWhatIsDirty(t *testing.T) {
	for _, x := range []struct {
		name   string
		device string
		l      []extent
		wanted []run
	}{
		{"nothing", "abcd", row(laidOut(4)), nil},
		{"nothing, of a hole", zeros(4), row(empty(4)), nil},
		{"nothing, unsaved", "ab" + zeros(2), row(unsaved(laidOut(2)), unsaved(empty(2))), nil},
		{"all", "abcd", row(dirty(laidOut(4))), []run{data(0, "abcd")}},
		{"all of a hole", zeros(4), row(dirty(empty(4))), []run{hole(0, 4)}},
		{"the front", "abcd", row(dirty(laidOut(1)), laidOut(3)), []run{data(0, "a")}},
		{"the end", "abcd", row(laidOut(3), dirty(laidOut(1))), []run{data(3, "d")}},
		{"the midst", "abcd", row(laidOut(1), dirty(unsaved(laidOut(2))), laidOut(1)), []run{data(1, "bc")}},
		{"both ends", "abcd", row(dirty(laidOut(1)), laidOut(2), dirty(laidOut(1))), []run{data(0, "a"), data(3, "d")}},
		{"data that touch", "abcd", row(dirty(laidOut(1)), dirty(unsaved(laidOut(2))), laidOut(1)), []run{data(0, "abc")}},
		{"holes that touch", zeros(4), row(empty(1), dirty(empty(1)), dirty(unsaved(empty(2)))), []run{hole(1, 3)}},
		{"holes and data that touch", "a" + zeros(2) + "b", row(dirty(laidOut(1)), dirty(empty(2)), dirty(laidOut(1))), []run{data(0, "a"), hole(1, 2), data(3, "b")}},
		{"data apart, a hole between that is clean", "a" + zeros(2) + "b", row(dirty(laidOut(1)), empty(2), dirty(laidOut(1))), []run{data(0, "a"), data(3, "b")}},
		{"holes apart, data between that are clean", zeros(1) + "ab" + zeros(1), row(dirty(empty(1)), laidOut(2), dirty(empty(1))), []run{hole(0, 1), hole(3, 1)}},
	} {
		for _, parent := range []uint64{1, 6, math.MaxUint64} {
			wantMade(t, x.name, 5, parent, x.device, x.l, since(5, parent, uint64(len(x.device)), x.wanted...))
		}
	}
}

// P25.2, ErrArg: what it says of the numbers and the bytes.
func TestMakeRefusesNumbers(t *testing.T) {
	l := row(laidOut(4))
	for _, x := range [][2]uint64{{0, 0}, {0, 1}, {0, math.MaxUint64}, {1, 1}, {7, 7}, {math.MaxUint64, math.MaxUint64}} {
		wantNotMade(t, fmt.Sprint("numbers ", x), x[0], x[1], "abcd", l, api.ErrArg)
	}
	for _, x := range [][2]uint64{{1, 0}, {math.MaxUint64, 0}} {
		wantMade(t, fmt.Sprint("numbers ", x), x[0], x[1], "abcd", l, full(x[0], data(0, "abcd")))
	}
	wantNotMade(t, "no byte", 1, 0, "", nil, api.ErrArg)
	wantNotMade(t, "no byte, and an extent of none", 1, 0, "", row(laidOut(0)), api.ErrArg)
	wantNotMade(t, "no byte, of what is dirty", 2, 1, "", nil, api.ErrArg)
}

// P25.2, ErrDevice: the extents, one thing after the other that may be wrong with them.
func TestMakeRefusesExtents(t *testing.T) {
	for name, l := range map[string][]extent{
		"none":                              nil,
		"an empty list":                     {},
		"the first not at 0":                {{Off: 1, Len: 7}},
		"the first not at 0, all bytes":     {{Off: 1, Len: 8}},
		"a gap":                             {{Off: 0, Len: 3}, {Off: 4, Len: 4}},
		"a gap, all bytes":                  {{Off: 0, Len: 3}, {Off: 4, Len: 5}},
		"an overlap":                        {{Off: 0, Len: 5}, {Off: 4, Len: 4}},
		"an overlap, all bytes":             {{Off: 0, Len: 5}, {Off: 4, Len: 3}},
		"one that goes back":                {{Off: 0, Len: 4}, {Off: 0, Len: 4}},
		"the wrong order":                   {{Off: 4, Len: 4}, {Off: 0, Len: 4}},
		"a byte too few":                    {{Off: 0, Len: 7}},
		"a byte too many":                   {{Off: 0, Len: 9}},
		"a byte too few in two":             {{Off: 0, Len: 4}, {Off: 4, Len: 3}},
		"a byte too many in two":            {{Off: 0, Len: 4}, {Off: 4, Len: 5}},
		"one behind all":                    {{Off: 0, Len: 8}, {Off: 8, Len: 1}},
		"Len 0 at the front":                {{Off: 0}, {Off: 0, Len: 8}},
		"Len 0 in the midst":                {{Off: 0, Len: 4}, {Off: 4}, {Off: 4, Len: 4}},
		"Len 0 at the end":                  {{Off: 0, Len: 8}, {Off: 8}},
		"Len 0 alone":                       {{Off: 0}},
		"a Len that goes on without end":    {{Off: 0, Len: math.MaxUint64}},
		"a sum that wraps to all":           {{Off: 0, Len: 4}, {Off: 4, Len: math.MaxUint64}, {Off: 3, Len: 5}},
		"a sum that wraps to all, in two":   {{Off: 0, Len: math.MaxUint64}, {Off: math.MaxUint64, Len: 9}},
		"an Off without end":                {{Off: 0, Len: 4}, {Off: math.MaxUint64, Len: 4}},
		"an Off of 2^32 more":               {{Off: 0, Len: 4}, {Off: 1<<32 + 4, Len: 4}},
		"a Len of 2^32 more":                {{Off: 0, Len: 4}, {Off: 4, Len: 1<<32 + 4}},
		"a hole beyond all":                 {{Off: 0, Len: 8}, {Off: 8, Len: 4, Hole: true}},
		"a hole without end over bytes 0":   {{Off: 0, Len: math.MaxUint64, Hole: true}},
		"a hole a byte too long":            {{Off: 0, Len: 9, Hole: true}},
		"a hole from a place that is not 0": {{Off: 1, Len: 7, Hole: true}},
	} {
		for _, parent := range []uint64{0, 1} {
			wantNotMade(t, name, 2, parent, zeros(8), l, api.ErrDevice)
			for n := range l {
				l[n].Dirty = !l[n].Dirty
			}
			wantNotMade(t, name+", dirty", 2, parent, zeros(8), l, api.ErrDevice)
		}
	}
}

// P25.2, ErrDevice: a hole with one byte that is not 0, wherever it is, and whether it would be told or not.
func TestMakeRefusesHolesWithBytes(t *testing.T) {
	for at := range 6 {
		for _, value := range []byte{1, 0x80, 0xff} {
			b := []byte("ab" + zeros(6) + "cd")
			b[2+at] = value
			for _, parent := range []uint64{0, 1} {
				for _, l := range [][]extent{
					row(laidOut(2), empty(6), laidOut(2)),
					row(laidOut(2), dirty(empty(6)), laidOut(2)),
					row(dirty(laidOut(2)), empty(3), dirty(empty(3)), laidOut(2)),
				} {
					wantNotMade(t, fmt.Sprint("byte ", at, " of a hole"), 2, parent, string(b), l, api.ErrDevice)
				}
			}
		}
	}
	l := row(laidOut(2), empty(6), laidOut(2))
	wantMade(t, "bytes at a hole's ends", 2, 0, "\xff\xff"+zeros(6)+"\xff\xff", l, full(2, data(0, "\xff\xff"), hole(2, 6), data(8, "\xff\xff")))
}

// P25.2, R3: ErrArg comes ahead of ErrDevice.
func TestMakeRefusesInOrder(t *testing.T) {
	for _, l := range [][]extent{nil, row(laidOut(3)), row(empty(4)), row(laidOut(5)), {{Off: 1, Len: 3}}} {
		for _, x := range [][2]uint64{{0, 0}, {0, 1}, {3, 3}} {
			wantNotMade(t, "numbers and extents", x[0], x[1], "abcd", l, api.ErrArg)
		}
		wantNotMade(t, "no byte, and extents", 1, 0, "", l, api.ErrArg)
		wantNotMade(t, "extents", 1, 0, "abcd", l, api.ErrDevice)
	}
}

// P25.2: every row of three extents of one or two bytes.
func TestMakeOfEveryKindOfExtents(t *testing.T) {
	var kinds []extent
	for bits := range 8 {
		kinds = append(kinds, extent{Hole: bits&1 != 0, Unsaved: bits&2 != 0, Dirty: bits&4 != 0})
	}
	sized := func(x extent, size int) extent { x.Len = uint64(size); return x }
	for _, a := range kinds {
		for _, b := range kinds {
			for _, c := range kinds {
				for sizes := range 8 {
					l := row(sized(a, 1+sizes&1), sized(b, 1+sizes>>1&1), sized(c, 1+sizes>>2))
					device := deviceOf(l)
					for _, parent := range []uint64{0, 4} {
						holdMake(t, fmt.Sprint("Make of ", l), 9, parent, device, l)
					}
				}
			}
		}
	}
}

// deviceOf gives bytes of which extents may tell: a hole's are 0, all others are not.
func deviceOf(l []extent) []byte {
	var b []byte
	for _, x := range l {
		if x.Hole {
			b = append(b, make([]byte, x.Len)...)
		} else {
			b = append(b, text(int(x.Off + x.Len))[x.Off:]...)
		}
	}
	return b
}
