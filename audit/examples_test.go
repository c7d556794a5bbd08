package audit_test

import (
	"testing"

	"spindle/api"
	"spindle/audit"
	"spindle/cache"
	"spindle/disk"
	"spindle/label"
	"spindle/server"
	"spindle/volume"
)

// formatted is the image of the chapter's first example.
func formatted(t *testing.T) image {
	t.Helper()
	b, e := server.Format(60, one())
	want(t, "Format", e, api.OK)
	return b
}

func TestExample1(t *testing.T) {
	b := formatted(t)
	wantLook(t, "example 1", b, api.Audit{Seq: 1, Label: one(), Exports: []api.Counted{{}}})
	a := look(t, "example 1", b)
	want(t, "example 1: Clean", audit.Clean(a), true)
	want(t, "example 1: Tell", audit.Tell(a), "sectors 60\nlabel 0 1\nexport 0 \"a\" 8 laid 0 marked 0\nclean\n")
}

func TestExample2(t *testing.T) {
	wantLook(t, "example 2", blank(1), api.Audit{Slot: -1, Findings: found(none())})
	_, e := lookOf(t, make(image, 511))
	want(t, "example 2, 511 bytes", e, api.ErrSectors)
}

func TestExample3(t *testing.T) {
	b := formatted(t)
	for at := range 512 {
		wrong := b.with(byteAt(1, at, 7))
		wantList(t, "example 3, a head", look(t, "example 3", wrong).Findings, found(head(1)))
		got, _ := repairOf(t, wrong, false)
		wantBytes(t, "example 3, a head", got, b)
	}
	for at := range 512 {
		wrong := b.with(turned(2, at))
		a := look(t, "example 3", wrong)
		wantAudit(t, "example 3, a body", a, api.Audit{Sectors: 60, Seq: 1, Findings: found(body(0))})
	}
	wrong := b.with(turned(2, 100))
	wantRepaired(t, "example 3, a body", wrong, false, wrong, body(0))
	wantRepaired(t, "example 3, a body, with force", wrong, true, wrong.with(wiped(0)), none())
}

func TestExample4(t *testing.T) {
	b := formatted(t)
	wrong := b.with(byteAt(42, 1, 0x81))
	wantFound(t, "example 4", wrong, note(0, 2))
	wantRepaired(t, "example 4", wrong, false, b)
}

func TestExample5(t *testing.T) {
	b := formatted(t).with(filled(9, upTo(43, 51)...))
	wantExport(t, "example 5, holes", b, 0, make([]byte, 4096))

	d, e := disk.Load(b)
	want(t, "Load", e, api.OK)
	places, e := label.Layout(one())
	want(t, "Layout", e, api.OK)
	c, e := cache.New(d, 4, []api.Span{places[0].Notes})
	want(t, "the cache", e, api.OK)
	v, e := volume.Open(c, places[0])
	want(t, "the volume", e, api.OK)
	_, e = v.Write(510, []byte("xy"))
	want(t, "Write", e, api.OK)
	wantDiffer(t, "example 5, not flushed", b, d.Image(), 0)
	want(t, "Flush", v.Flush(), api.OK)
	wantDiffer(t, "example 5, flushed", b, d.Image(), 0, api.Range{Lo: 510, Hi: 512})
}
