package audit_test

import (
	"fmt"
	"testing"

	"spindle/api"
	"spindle/audit"
)

// every calls all that takes an image, of this one, and tells their errors; what else they answer is held against R2.
func every(t *testing.T, b image) map[string]api.Errno {
	t.Helper()
	out := map[string]api.Errno{}
	_, out["Look"] = lookOf(t, b)
	_, out["Repair"] = repairOf(t, b, false)
	_, out["Repair with force"] = repairOf(t, b, true)
	for _, number := range []int{-1, 0, 1} {
		_, out[fmt.Sprint("Bytes of ", number)] = bytesOf(t, b, number)
		_, out[fmt.Sprint("Differ of this one, export ", number)] = differOf(t, b, fresh(60, one()), number)
		_, out[fmt.Sprint("Differ with this one, export ", number)] = differOf(t, fresh(60, one()), b, number)
	}
	return out
}

// P21.1 to P21.5: what is no image.
func TestWhatIsNoImage(t *testing.T) {
	whole := fresh(60, one())
	for _, b := range []image{nil, {}, whole[:1], whole[:511], whole[:513], whole[:1023], whole[:1025], whole[:30000], whole[:len(whole)-1],
		blank(api.MaxSectors)[:api.MaxSectors*512-1], append(blank(api.MaxSectors), 0), blank(api.MaxSectors + 1), fresh(api.MaxSectors+1, one())} {
		for what, e := range every(t, b) {
			want(t, fmt.Sprintf("%s, %d bytes", what, len(b)), e, api.ErrSectors)
		}
	}
}

// P21.1 to P21.5: the least image and the greatest one, with a label and without.
func TestGreatestAndLeastImages(t *testing.T) {
	wantLook(t, "one sector", blank(1), api.Audit{Slot: -1, Findings: found(none())})
	wantRepaired(t, "one sector", blank(1), true, blank(1), none())
	wantRepaired(t, "one sector, no head", stamped(1), false, blank(1), none())
	b := blank(api.MaxSectors)
	a, e := audit.Look(b)
	want(t, "no label: Look's error", e, api.OK)
	wantAudit(t, "no label", a, api.Audit{Sectors: api.MaxSectors, Slot: -1, Findings: found(none())})
	_, e = audit.Bytes(b, 0)
	want(t, "no label: Bytes' error", e, api.ErrNone)
	_, e = audit.Differ(b, b, 0)
	want(t, "no label: Differ's error", e, api.ErrNone)
}

// P21.1 to P21.5: an export that fills the greatest disk, all of it laid out, every second sector marked, with bits beyond its end.
func TestGreatestExport(t *testing.T) {
	const sectors = api.MaxSectors - behind - 2*16
	l := labelOf(tracked(export("all", sectors)))
	b := stamped(api.MaxSectors).with(wiped(upTo(0, behind+32)...), labelled(0, l, 1))
	b = b.with(bits(behind, upTo(0, sectors)...), bits(behind+16, 0, 2, 4, sectors-1))
	a := api.Audit{Sectors: api.MaxSectors, Seq: 1, Label: l, Exports: []api.Counted{{Laid: sectors, Marked: 4}}}
	wantAudit(t, "the greatest export", look(t, "the greatest export", b), a)
	want(t, "Clean", cleanOf(t, a), true)
	wantExport(t, "the greatest export", b, 0, b[512*(behind+32):])
	wantDiffer(t, "the greatest export", b, b.with(turned(api.MaxSectors-1, 511), bits(behind+16, 1)), 0, api.Range{Lo: int64(sectors)*512 - 1, Hi: int64(sectors) * 512})
	wantDiffer(t, "the greatest export and a small one", b, fresh(60, one()), 0, api.Range{Hi: int64(sectors) * 512})

	wrong := b.with(bits(behind, upTo(sectors, 65536)...), bits(behind+16, sectors, 65535))
	a.Findings = found(note(0, 65536-sectors), mark(0, 2))
	wantAudit(t, "bits beyond", look(t, "bits beyond", wrong), a)
	got, e := repairOf(t, wrong, false)
	want(t, "bits beyond: Repair's error", e, api.OK)
	wantBytes(t, "bits beyond", got, b)
}

// P21.5: a long list is told in time: each second byte of an export differs.
func TestLongDiffer(t *testing.T) {
	const sectors = 4096
	a := blank(behind + 1 + sectors).with(labelled(0, labelOf(export("x", sectors)), 1))
	b := a.with(bits(behind, upTo(0, sectors)...))
	for at := 512 * (behind + 1); at < len(b); at += 2 {
		b[at] = 1
	}
	list, e := audit.Differ(a, b, 0)
	want(t, "Differ's error", e, api.OK)
	want(t, "so many ranges", len(list), sectors*256)
	for n, r := range list {
		if r != (api.Range{Lo: int64(2 * n), Hi: int64(2*n + 1)}) {
			t.Fatal("range", n, "is", r)
		}
	}
}
