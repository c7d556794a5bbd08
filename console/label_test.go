package console_test

import (
	"bytes"
	"fmt"
	"strings"
	"testing"

	"spindle/api"
	"spindle/audit"
	"spindle/disk"
	"spindle/label"
)

// exports tells what the label in force says.
func (d desk) exports() []api.Export {
	d.Helper()
	a, e := audit.Look(d.image())
	if e != api.OK || !audit.Clean(a) {
		d.Fatalf("error %d, %v", e, a.Findings)
	}
	return a.Label.Exports
}

// P26.2 rename, describe, readonly: just that is turned of just that export, by one Commit.
func TestRelabel(t *testing.T) {
	d := deskOf(t, three)
	wanted := d.exports()
	seq := uint64(1)
	for _, x := range []struct {
		line string
		turn func()
	}{
		{`rename 0 "é \"x\"\n"`, func() { wanted[0].Name = "é \"x\"\n" }},
		{`rename 0 "é \"x\"\n"`, func() {}},
		{`rename 2 "a"`, func() { wanted[2].Name = "a" }},
		{`describe 1 "second"`, func() { wanted[1].Desc = "second" }},
		{`describe 0 ""`, func() { wanted[0].Desc = "" }},
		{"describe 2 " + quote(strings.Repeat("d", 256)), func() { wanted[2].Desc = strings.Repeat("d", 256) }},
		{"rename 1 " + quote(strings.Repeat("n", 256)), func() { wanted[1].Name = strings.Repeat("n", 256) }},
		{"readonly 0 on", func() { wanted[0].ReadOnly = true }},
		{"readonly 0 on", func() {}},
		{"readonly 1 on", func() { wanted[1].ReadOnly = true }},
		{"readonly 0 off", func() { wanted[0].ReadOnly = false }},
		{"readonly 2 off", func() {}},
	} {
		before := d.image()
		d.ok(x.line)
		x.turn()
		seq++
		for i, got := range d.exports() {
			want(t, fmt.Sprintf("%s: export %d", x.line, i), got, wanted[i])
		}
		disk, _ := disk.Load(d.image())
		_, got, e := label.Load(disk)
		want(t, x.line+": error", e, api.OK)
		want(t, x.line+": number", got, seq)
		want(t, x.line+": what lies behind the label", bytes.Equal(d.image()[42*512:], before[42*512:]), true)
	}
}

// P26.2: the disk behind a line about the label is the one behind a Commit of it.
func TestRelabelBytes(t *testing.T) {
	d := deskOf(t, three)
	for i, line := range []string{`rename 1 "x"`, `describe 1 "x"`, "readonly 1 on"} {
		other, _ := disk.Load(d.image())
		l, _, _ := label.Load(other)
		x := &l.Exports[1]
		switch i {
		case 0:
			x.Name = "x"
		case 1:
			x.Desc = "x"
		case 2:
			x.ReadOnly = true
		}
		want(t, line+": error", label.Commit(other, l), api.OK)
		d.ok(line)
		want(t, line, bytes.Equal(d.image(), other.Image()), true)
	}
}

// P26.2 rename, describe, readonly: what Check refuses.
func TestRelabelRefused(t *testing.T) {
	d := deskOf(t, three)
	long := quote(strings.Repeat("x", 257))
	d.same(3, func() {
		d.refuses(api.ErrLabel, `rename 0 ""`, `rename 0 "b"`, `rename 1 "p"`, "rename 0 "+long, `rename 0 "\xff"`, `rename 0 "\x00"`, "describe 0 "+long, `describe 0 "\xff"`, `describe 0 "a\x00"`, "readonly 2 on")
		d.refuses(api.ErrArg, `rename 3 "x"`, `describe 3 "x"`, "readonly 3 on", "readonly 3 off", `rename 2147483647 ""`, `rename 3 ""`)
	})
	d.ok("readonly 2 off") // it may be said of a private one
}

// P26.2: the label's number can grow no more.
func TestRelabelEnd(t *testing.T) {
	d := deskOf(t, first)
	l := api.Label{Exports: d.exports()}
	image := d.image()
	head, body, e := label.Encode(l, api.MaxSeq)
	want(t, "error", e, api.OK)
	copy(image[512:], head)
	copy(image[22*512:], body)
	d.c.Lay(image)
	d.same(1, func() {
		d.refuses(api.ErrEnd, `rename 0 "b"`, `describe 0 "b"`, "readonly 0 on")
		d.refuses(api.ErrLabel, `rename 0 ""`)
		d.refuses(api.ErrArg, `rename 1 "b"`)
	})
}

// P26.2: no other line looks whether an export is ReadOnly or Private.
func TestReadOnlyAndPrivate(t *testing.T) {
	d := deskOf(t, three)
	d.ok("readonly 0 on", "readonly 1 on")
	for i := range 3 {
		d.ok(fmt.Sprintf(`write %d 0 "abc"`, i))
		d.says(fmt.Sprintf("read %d 0 4", i), `bytes "abc\x00"`)
		d.ok(fmt.Sprintf("zero %d 1 1", i), fmt.Sprintf("trim %d 512 512", i))
		d.says(fmt.Sprintf("read %d 0 4", i), `bytes "a\x00c\x00"`)
	}
	d.ok("clear 0")
	want(t, "what is laid out", strings.Count(d.do("audit"), "laid 1 "), 3)
}
