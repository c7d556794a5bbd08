package label_test

import (
	"bytes"
	"slices"
	"strconv"
	"testing"

	"spindle/api"
	"spindle/disk"
	"spindle/label"
)

// roomy gives a copy of a list with spare room behind it that is not zero.
func roomy[T any](list []T, filler T) []T {
	out := append(slices.Clone(list), filler, filler, filler)
	return out[:len(list)]
}

// R4: labels that are handed in are not changed, and not kept
func TestLabelsHandedIn(t *testing.T) {
	filler := export("filler", 9)
	d := stamped(t, 90)
	for _, c := range []struct {
		what string
		asks func(api.Label)
	}{
		{"Check", func(l api.Label) { label.Check(l) }},
		{"Layout", func(l api.Label) { label.Layout(l) }},
		{"Sectors", func(l api.Label) { label.Sectors(l) }},
		{"Encode", func(l api.Label) { label.Encode(l, 1) }},
		{"Format", func(l api.Label) { label.Format(d, l) }},
		{"Commit", func(l api.Label) { label.Commit(d, l) }},
	} {
		exports := roomy(mixed().Exports, filler)
		before := slices.Clone(exports[:cap(exports)])
		c.asks(api.Label{Exports: exports})
		want(t, c.what+": the label is as it was", slices.Equal(exports[:cap(exports)], before), true)
		spoil(exports, filler)
	}
	wantLoad(t, "spoilt behind the call", d, mixed(), 2)
}

// R4: bytes that are handed in are not changed, and not kept
func TestBytesHandedIn(t *testing.T) {
	head, body := plain(mixed(), 5)
	head, body = roomy(head, 7), roomy(body, 8)
	headBefore, bodyBefore := slices.Clone(head[:cap(head)]), slices.Clone(body[:cap(body)])
	l, seq, e := label.Decode(head, body)
	want(t, "the head is as it was", bytes.Equal(head[:cap(head)], headBefore), true)
	want(t, "the body is as it was", bytes.Equal(body[:cap(body)], bodyBefore), true)
	spoil(head, 255)
	spoil(body, 255)
	wantLabel(t, "spoilt behind the call", l, seq, e, mixed(), 5)
}

// R4: what is answered is new memory, each time
func TestAnswers(t *testing.T) {
	filler := export("filler", 9)
	d := formatted(t, 90, mixed())
	head, body, _ := label.Encode(mixed(), 1)
	wantHead, wantBody := plain(mixed(), 1)
	spoil(head, 1)
	want(t, "the body beside a spoilt head", bytes.Equal(body, wantBody), true)
	again, _, _ := label.Encode(mixed(), 1)
	spoil(body, 1)
	want(t, "the head beside a spoilt body", bytes.Equal(again, wantHead), true)
	again, body, _ = label.Encode(mixed(), 1)
	want(t, "encoded anew", bytes.Equal(again, wantHead) && bytes.Equal(body, wantBody), true)

	places, _ := label.Layout(mixed())
	other, _ := label.Layout(mixed())
	kept := slices.Clone(other)
	spoil(places, api.Place{})
	want(t, "places beside spoilt ones", slices.Equal(other, kept), true)

	for range 2 {
		l, _, _ := label.Load(d)
		spoil(l.Exports, filler)
		l, _, _ = label.Decode(wantHead, wantBody)
		spoil(l.Exports, filler)
	}
	wantLoad(t, "loaded anew", d, mixed(), 1)
	l, seq, e := label.Decode(wantHead, wantBody)
	wantLabel(t, "decoded anew", l, seq, e, mixed(), 1)
}

// R9: two disks know nothing of one another
func TestTwoDisks(t *testing.T) {
	a, b := formatted(t, 90, mixed()), formatted(t, 143, one(100))
	before := lookAt(b)
	commit(t, a, described(mixed(), "other"))
	wantErr(t, "refused", label.Commit(a, one(100)), api.ErrShape)
	wantLook(t, "the other disk", b, before)
	wantLoad(t, "the other disk", b, one(100), 1)
	wantLoad(t, "the first disk", a, described(mixed(), "other"), 2)
}

// R5: the same calls, the same answers and disks
func TestAgain(t *testing.T) {
	run := func() *disk.Disk {
		d := formatted(t, 1154, full())
		for i := range 5 {
			label.Commit(d, described(full(), strconv.Itoa(i)))
		}
		return d
	}
	wantLook(t, "again", run(), lookAt(run()))
}
