package label_test

import (
	"math"
	"slices"
	"strconv"
	"strings"
	"testing"

	"spindle/api"
	"spindle/label"
)

// wantCheck looks what each call that asks Check says of a label, right or wrong.
func wantCheck(t *testing.T, what string, l api.Label, may bool) {
	t.Helper()
	wanted := api.ErrLabel
	if may {
		wanted = api.OK
	}
	wantErr(t, what+": Check", label.Check(l), wanted)
	places, e := label.Layout(l)
	wantErr(t, what+": Layout", e, wanted)
	sectors, e := label.Sectors(l)
	wantErr(t, what+": Sectors", e, wanted)
	head, body, e := label.Encode(l, 1)
	wantErr(t, what+": Encode", e, wanted)
	if !may && (len(places) != 0 || sectors != 0 || len(head) != 0 || len(body) != 0) {
		t.Errorf("%s: beside the error %v, %d, %d and %d bytes", what, places, sectors, len(head), len(body))
	}
}

func wantExport(t *testing.T, what string, may bool, change func(*api.Export)) {
	t.Helper()
	wantCheck(t, what, labelOf(with(export("a", 8), change)), may)
	wantCheck(t, what+", the last", labelOf(export("b", 1), export("c", 2), with(export("a", 8), change)), may)
}

// P6.1: from 1 to 16 exports
func TestHowManyExports(t *testing.T) {
	var l api.Label
	wantCheck(t, "nil", l, false)
	wantCheck(t, "none", api.Label{Exports: []api.Export{}}, false)
	for n := 1; n <= 18; n++ {
		l.Exports = append(l.Exports, export(strconv.Itoa(n), n))
		wantCheck(t, strconv.Itoa(n)+" exports", l, n <= 16)
	}
	wantCheck(t, "the fullest one", full(), true)
	wantCheck(t, "mixed", mixed(), true)
}

// P6.1: names and descriptions are texts of so many bytes
func TestTexts(t *testing.T) {
	for _, c := range []struct {
		what string
		text string
		name bool
		desc bool
	}{
		{"empty", "", false, true},
		{"one byte", "x", true, true},
		{"255 bytes", strings.Repeat("x", 255), true, true},
		{"256 bytes", strings.Repeat("x", 256), true, true},
		{"257 bytes", strings.Repeat("x", 257), false, false},
		{"256 bytes of two", strings.Repeat("é", 128), true, true},
		{"128 runes in 257 bytes", strings.Repeat("é", 127) + "€", false, false},
		{"65536 + 1 bytes", strings.Repeat("x", 65537), false, false},
		{"a byte 0", "a\x00b", false, false},
		{"a byte 0 alone", "\x00", false, false},
		{"no UTF-8", "a\xff", false, false},
		{"a surrogate", "\xed\xa0\x80", false, false},
		{"a longer form", "\xc0\x80", false, false},
		{"cut off", "\xe2\x82", false, false},
		{"too high", "\xf4\x90\x80\x80", false, false},
		{"the highest", "\U0010ffff", true, true},
		{"what looks odd", "\x01\n \"\\\x7f\ufffd\ufeff", true, true},
	} {
		wantExport(t, "a name: "+c.what, c.name, func(e *api.Export) { e.Name = c.text })
		wantExport(t, "a description: "+c.what, c.desc, func(e *api.Export) { e.Desc = c.text })
	}
}

// P6.1: the sectors of one export, alone and with all that lies around them
func TestHowManySectors(t *testing.T) {
	for _, n := range []int{math.MinInt, -65536, -1, 0, 65537, 1 << 31, 1 << 32, 1<<32 + 1, 1 << 55, math.MaxInt} {
		wantExport(t, strconv.Itoa(n)+" sectors", false, func(e *api.Export) { e.Sectors = n })
	}
	for _, n := range []int{1, 2, 4095, 4096, 4097, 40000} {
		wantExport(t, strconv.Itoa(n)+" sectors", true, func(e *api.Export) { e.Sectors = n })
	}
	// 65536 - 42 sectors are left for 16 note sectors and 65478 data sectors.
	wantCheck(t, "just all", one(65478), true)
	wantCheck(t, "one more", one(65479), false)
	wantCheck(t, "MaxSectors", one(65536), false)
	wantCheck(t, "tracked, just all", labelOf(tracked(export("a", 65462))), true)
	wantCheck(t, "tracked, one more", labelOf(tracked(export("a", 65463))), false)
	// 65536 - 42 = 8 + 32768 + 8 + 32710 = 9 + 32769 + 8 + 32708
	wantCheck(t, "two, just all", labelOf(export("a", 32768), export("b", 32710)), true)
	wantCheck(t, "two, one more", labelOf(export("a", 32768), export("b", 32711)), false)
	wantCheck(t, "two, a note sector more, just all", labelOf(export("a", 32769), export("b", 32708)), true)
	wantCheck(t, "two, a note sector more, one more", labelOf(export("a", 32769), export("b", 32709)), false)
	many := make([]api.Export, 16)
	for i := range many {
		many[i] = export(strconv.Itoa(i), 65536)
	}
	wantCheck(t, "sixteen of the greatest", labelOf(many...), false)
}

// P6.1: each Min and each Pref that may be, with each other, and those beside
func TestBlockSizes(t *testing.T) {
	var sizes []uint32
	for i := range 32 {
		n := uint32(1) << i
		sizes = append(sizes, n-1, n, n+1, 3*n)
	}
	sizes = append(sizes, math.MaxUint32, math.MaxUint32-511)
	mins := []uint32{1, 512, 1024, 2048, 4096}
	prefs := []uint32{512, 1024, 2048, 4096, 8192, 16384, 32768, 65536}
	for _, least := range sizes {
		for _, pref := range sizes {
			may := slices.Contains(mins, least) && slices.Contains(prefs, pref) && pref >= least
			l := labelOf(api.Export{Name: "a", Sectors: 8, Min: least, Pref: pref})
			if got := label.Check(l) == api.OK; got != may {
				t.Errorf("Min %d, Pref %d: %v, want %v", least, pref, got, may)
			}
		}
	}
}

// P6.1: the bytes are a multiple of Min
func TestWholeBlocks(t *testing.T) {
	for _, least := range []uint32{1, 512, 1024, 2048, 4096} {
		for sectors := 1; sectors <= 40; sectors++ {
			may := uint32(sectors)*512%least == 0
			l := labelOf(api.Export{Name: "a", Sectors: sectors, Min: least, Pref: 65536})
			wantCheck(t, strconv.Itoa(sectors)+" sectors of Min "+strconv.Itoa(int(least)), l, may)
		}
	}
}

// P6.1: a private one is neither read-only nor tracked
func TestFlagsTogether(t *testing.T) {
	for flags := range 16 {
		readOnly, rotational, private, marked := flags&1 != 0, flags&2 != 0, flags&4 != 0, flags&8 != 0
		wantExport(t, "flags "+strconv.Itoa(flags), !(private && (readOnly || marked)), func(e *api.Export) {
			e.ReadOnly, e.Rotational, e.Private, e.Tracked = readOnly, rotational, private, marked
		})
	}
}

// P6.1: no two names alike, wherever they stand; descriptions may be
func TestNamesApart(t *testing.T) {
	l := full()
	for i := range l.Exports {
		for j := range l.Exports {
			if i != j {
				alike := api.Label{Exports: slices.Clone(l.Exports)}
				alike.Exports[i].Name = alike.Exports[j].Name
				wantErr(t, "names "+strconv.Itoa(i)+" and "+strconv.Itoa(j), label.Check(alike), api.ErrLabel)
			}
		}
	}
	wantCheck(t, "other letters", labelOf(export("a", 1), export("A", 1), export("a ", 1), export("ä", 1), export("a\u0308", 1)), true)
	one, two := export("a", 1), export("b", 1)
	one.Desc, two.Desc = "b", "b"
	wantCheck(t, "one description", labelOf(one, two), true)
}

// P6.2, P6.3: where notes, marks and data lie
func TestPlaces(t *testing.T) {
	for _, c := range []struct{ sectors, notes int }{{1, 1}, {4095, 1}, {4096, 1}, {4097, 2}, {8192, 2}, {8193, 3}, {65478, 16}} {
		what := strconv.Itoa(c.sectors) + " sectors"
		wantPlaces(t, what, one(c.sectors), 42+c.notes+c.sectors,
			place(span(42, c.notes), span(0, 0), span(42+c.notes, c.sectors)))
		if c.sectors < 65462 {
			wantPlaces(t, what+", tracked", labelOf(tracked(export("a", c.sectors))), 42+2*c.notes+c.sectors,
				place(span(42, c.notes), span(42+c.notes, c.notes), span(42+2*c.notes, c.sectors)))
		}
	}
	wantPlaces(t, "the greatest", one(65478), 65536, place(span(42, 16), span(0, 0), span(58, 65478)))
	wantPlaces(t, "mixed", mixed(), 90,
		place(span(42, 1), span(43, 1), span(44, 16)),
		place(span(60, 1), span(0, 0), span(61, 7)),
		place(span(68, 1), span(69, 1), span(70, 20)))
	wantPlaces(t, "several notes each", labelOf(export("a", 4097), tracked(export("b", 9000)), export("c", 1)), 13149,
		place(span(42, 2), span(0, 0), span(44, 4097)),
		place(span(4141, 3), span(4144, 3), span(4147, 9000)),
		place(span(13147, 1), span(0, 0), span(13148, 1)))
}

// P6.2: as many places as exports, one behind the other without a gap
func TestPlacesOfMany(t *testing.T) {
	l := full()
	places, e := label.Layout(l)
	wantErr(t, "Layout", e, api.OK)
	want(t, "how many", len(places), 16)
	next := 42
	for i, p := range places {
		want(t, "notes", p.Notes, span(next, 1))
		next++
		if l.Exports[i].Tracked {
			want(t, "marks", p.Marks, span(next, 1))
			next++
		} else {
			want(t, "no marks", p.Marks, span(0, 0))
		}
		want(t, "data", p.Data, span(next, l.Exports[i].Sectors))
		next += l.Exports[i].Sectors
	}
	n, _ := label.Sectors(l)
	want(t, "Sectors", n, next)
}
