package audit_test

import (
	"bytes"
	"slices"
	"testing"

	"spindle/api"
	"spindle/audit"
)

// roomy gives a copy of a list with spare room behind it that is not zero; of none, too.
func roomy[T any](list []T, spare T) []T {
	room := append(make([]T, 0, len(list)+3), list...)
	return append(room, spare, spare, spare)[:len(list)]
}

// whole is a list with the spare room behind it.
func whole[T any](list []T) []T { return list[:cap(list)] }

// spoil writes a list over, with the spare room behind it.
func spoil[T any](list []T, with T) {
	for i := range whole(list) {
		whole(list)[i] = with
	}
}

func spoilAudit(a api.Audit) {
	spoil(a.Label.Exports, export("spoilt", 77))
	spoil(a.Exports, api.Counted{Laid: -7, Marked: -7})
	spoil(a.Findings, api.Finding{Kind: -7, At: -7, N: -7})
}

// handed lays images into memory of their own, with room behind them, and looks behind a call that all of it is as it was (R4); then it is written over.
func handed(t *testing.T, what string, call func(in []image), images ...image) {
	t.Helper()
	var in []image
	for _, b := range images {
		in = append(in, roomy(b, 0xa5))
	}
	call(in)
	for n, b := range images {
		if !bytes.Equal(in[n], b) || !bytes.Equal(whole(in[n])[len(b):], whole(roomy(b, 0xa5))[len(b):]) {
			t.Errorf("%s: what was handed in was changed", what)
		}
		spoil(in[n], 0x5a)
	}
}

// lookOf calls Look twice; the first answer is written over ahead of the second call. What is answered is held against R2, R4 and R5.
func lookOf(t *testing.T, b image) (api.Audit, api.Errno) {
	t.Helper()
	var first, second, copied api.Audit
	var e, again api.Errno
	handed(t, "Look", func(in []image) {
		first, e = audit.Look(in[0])
		copied = cloned(first)
		spoilAudit(first)
		second, again = audit.Look(in[0])
	}, b)
	if e != again || !sameAudit(second, copied) {
		t.Errorf("Look again, all memory written over: %+v, error %d, want %+v, error %d", second, again, copied, e)
	}
	if e != api.OK && !sameAudit(copied, api.Audit{}) {
		t.Errorf("Look: %+v beside error %d", copied, e)
	}
	return copied, e
}

// listOf calls what answers a list, twice, as lookOf does.
func listOf[T comparable](t *testing.T, what string, with T, call func(in []image) ([]T, api.Errno), images ...image) ([]T, api.Errno) {
	t.Helper()
	var first, second, copied []T
	var e, again api.Errno
	handed(t, what, func(in []image) {
		first, e = call(in)
		copied = slices.Clone(first)
		spoil(first, with)
		second, again = call(in)
	}, images...)
	if e != again || !slices.Equal(second, copied) {
		t.Errorf("%s again, all memory written over: other things, error %d, want error %d", what, again, e)
	}
	if slices.ContainsFunc(whole(first), func(v T) bool { return v != with }) {
		t.Errorf("%s: what it answered was changed behind its answer", what)
	}
	if e != api.OK && len(copied) > 0 {
		t.Errorf("%s: %d things beside error %d", what, len(copied), e)
	}
	return copied, e
}

func repairOf(t *testing.T, b image, force bool) (image, api.Errno) {
	t.Helper()
	return listOf(t, "Repair", 0xc3, func(in []image) ([]byte, api.Errno) { return audit.Repair(in[0], force) }, b)
}

func bytesOf(t *testing.T, b image, number int) ([]byte, api.Errno) {
	t.Helper()
	return listOf(t, "Bytes", 0xc3, func(in []image) ([]byte, api.Errno) { return audit.Bytes(in[0], number) }, b)
}

func differOf(t *testing.T, a, b image, number int) ([]api.Range, api.Errno) {
	t.Helper()
	return listOf(t, "Differ", api.Range{Lo: -7, Hi: -7}, func(in []image) ([]api.Range, api.Errno) { return audit.Differ(in[0], in[1], number) }, a, b)
}

// told hands an audit to a call in memory of its own, and looks that it is as it was (R4).
func told[T any](t *testing.T, what string, a api.Audit, call func(api.Audit) T) T {
	t.Helper()
	in := a
	in.Label.Exports = roomy(a.Label.Exports, export("spare", 5))
	in.Exports = roomy(a.Exports, api.Counted{Laid: 5, Marked: 5})
	in.Findings = roomy(a.Findings, api.Finding{Kind: 5, At: 5, N: 5})
	before := in
	before.Label.Exports, before.Exports, before.Findings = slices.Clone(whole(in.Label.Exports)), slices.Clone(whole(in.Exports)), slices.Clone(whole(in.Findings))
	out := call(in)
	in.Label.Exports, in.Exports, in.Findings = whole(in.Label.Exports), whole(in.Exports), whole(in.Findings)
	wantAudit(t, what+": the audit behind the call", in, before)
	spoilAudit(in)
	return out
}

func tellOf(t *testing.T, a api.Audit) string {
	t.Helper()
	return told(t, "Tell", a, audit.Tell)
}

func cleanOf(t *testing.T, a api.Audit) bool {
	t.Helper()
	return told(t, "Clean", a, audit.Clean)
}

// R4: what a Repair, a Bytes or a Differ answers is its own, and so is what another one of the same image answers; both images of a Differ may be one.
func TestAnswersShareNothing(t *testing.T) {
	b := fresh(60, one()).with(bits(42, 0, 3, 9), byteAt(1, 7, 7))
	kept := slices.Clone(b)
	var answers [][]byte
	for _, force := range []bool{false, true, false} {
		out, _ := audit.Repair(b, force)
		answers = append(answers, out)
	}
	for range 2 {
		out, _ := audit.Bytes(b, 0)
		answers = append(answers, out)
	}
	for n, out := range answers {
		spoil(out, byte(n+1))
	}
	for n, out := range answers {
		want(t, "an answer shares memory with another", bytes.Equal(whole(out), of(cap(out), byte(n+1))), true)
	}
	wantBytes(t, "the image", b, kept)
	l, e := audit.Differ(b, b, 0)
	want(t, "Differ of one slice: the error", e, api.OK)
	want(t, "Differ of one slice", len(l), 0)
}

// R4: of an image that needs no mending Repair gives a copy, not the image.
func TestRepairOfWhatIsRight(t *testing.T) {
	for _, force := range []bool{false, true} {
		b := fresh(60, one())
		wantRepaired(t, "nothing is wrong", b, force, b)
		out, _ := audit.Repair(b, force)
		spoil(out, 9)
		wantBytes(t, "the image, with its answer written over", b, fresh(60, one()))
	}
}

// R5: an answer hangs on the arguments alone, not on what other calls were made in between.
func TestAgain(t *testing.T) {
	a := fresh(60, one()).with(bits(42, 1, 2, 12), turned(43, 9))
	b := fresh(severalSize, several()).with(bits(42, 2), bits(51, 0, 12), bits(52, 3, 15))
	askAll := func(x image) string {
		l := look(t, "again", x)
		mended, _ := audit.Repair(x, true)
		array, _ := audit.Bytes(x, 0)
		ranges, _ := audit.Differ(x, b, 0)
		out := tellOf(t, l) + string(mended) + string(array)
		for _, r := range ranges {
			out += tellOf(t, api.Audit{Sectors: int(r.Lo), Slot: int(r.Hi)})
		}
		return out
	}
	ofA, ofB := askAll(a), askAll(b)
	for range 3 {
		want(t, "the first image again", askAll(a) == ofA, true)
		want(t, "the second image again", askAll(b) == ofB, true)
	}
}
