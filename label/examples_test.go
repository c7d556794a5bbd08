package label_test

import (
	"slices"
	"testing"

	"spindle/api"
	"spindle/disk"
	"spindle/label"
)

func span(first, count int) api.Span { return api.Span{First: first, Count: count} }

func place(notes, marks, data api.Span) api.Place {
	return api.Place{Notes: notes, Marks: marks, Data: data}
}

func wantPlaces(t *testing.T, what string, l api.Label, sectors int, places ...api.Place) {
	t.Helper()
	if got, e := label.Layout(l); e != api.OK || !slices.Equal(got, places) {
		t.Errorf("%s: Layout %v, error %d, want %v", what, got, e, places)
	}
	if n, e := label.Sectors(l); e != api.OK || n != sectors {
		t.Errorf("%s: Sectors %d, error %d, want %d", what, n, e, sectors)
	}
}

// Example 1
func TestExampleLayout(t *testing.T) {
	wantPlaces(t, "100 sectors", one(100), 143, place(span(42, 1), span(0, 0), span(43, 100)))
	wantPlaces(t, "4097 sectors", one(4097), 44+4097, place(span(42, 2), span(0, 0), span(44, 4097)))
	wantPlaces(t, "100 sectors, tracked", labelOf(tracked(export("a", 100))), 144, place(span(42, 1), span(43, 1), span(44, 100)))
}

// Example 2
func TestExampleCheck(t *testing.T) {
	nine := export("a", 9)
	for what, l := range map[string]api.Label{
		"no exports":    {},
		"one name":      labelOf(nine, nine),
		"Min 3":         labelOf(with(nine, func(e *api.Export) { e.Min = 3 })),
		"Pref 256":      labelOf(with(nine, func(e *api.Export) { e.Pref = 256 })),
		"Sectors 0":     one(0),
		"not 4096 each": labelOf(with(nine, func(e *api.Export) { e.Min, e.Pref = 4096, 4096 })),
	} {
		wantErr(t, what, label.Check(l), api.ErrLabel)
	}
}

// Example 3
func TestExampleSlots(t *testing.T) {
	d := formatted(t, 143, one(100))
	wantLoad(t, "Format", d, one(100), 1)
	for seq := uint64(2); seq <= 3; seq++ {
		slot := int(3 - seq)
		l := described(one(100), string(rune('0'+seq)))
		commit(t, d, l)
		wantLoad(t, "Commit", d, l, seq)
		head, body := plain(l, seq)
		image := d.Image()
		want(t, "the head", string(image[512*slot:][:512]), string(head))
		want(t, "the body", string(image[512*(2+20*slot):][:bodyBytes]), string(body))
	}
}

// Example 4
func TestExampleTurned(t *testing.T) {
	d := formatted(t, 143, one(100))
	second := described(one(100), "second")
	commit(t, d, second)
	spoilt := d.Copy()
	turn(t, d, 1, 26)
	wantLoad(t, "the head's sum is wrong", d, one(100), 1)
	turn(t, spoilt, 22, 5)
	wantNoLoad(t, "the body is turned", spoilt, api.ErrSpoilt)
}

// Example 5
func TestExampleShape(t *testing.T) {
	empty, _ := disk.New(143)
	wantErr(t, "on an empty disk", label.Commit(empty, one(100)), api.ErrNone)
	d := formatted(t, 200, one(100))
	wantErr(t, "another size", label.Commit(d, one(99)), api.ErrShape)
	wantErr(t, "tracked now", label.Commit(d, labelOf(tracked(export("a", 100)))), api.ErrShape)
	wantLoad(t, "refused", d, one(100), 1)
}
