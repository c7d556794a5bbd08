package console_test

import (
	"fmt"
	"strings"
	"testing"

	"spindle/api"
	"spindle/audit"
	"spindle/server"
)

// P26.2 export, format: what each word of an export is, held against the label that server.Format lays down.
func TestExportWords(t *testing.T) {
	for flags := range 16 {
		x := api.Export{Name: "a \"b\"\n", Desc: "ü\\", Sectors: 16, Min: 512, Pref: 8192, ReadOnly: flags&1 > 0, Rotational: flags&2 > 0, Private: flags&4 > 0, Tracked: flags&8 > 0}
		d := newDesk(t)
		d.ok(fmt.Sprintf("export %s 16 512 8192 %d %s", quote(x.Name), flags, quote(x.Desc)))
		image, e := server.Format(70, api.Label{Exports: []api.Export{x}})
		if e != api.OK {
			d.refuses(e, "format 70")
			continue
		}
		d.ok("format 70")
		want(t, fmt.Sprintf("flags %d", flags), string(d.image()) == string(image), true)
	}
}

// P26.2 export: 16 may be, whatever they say, and no more; what was refused is not there.
func TestDraft(t *testing.T) {
	d := newDesk(t)
	for i := range 16 {
		d.ok(fmt.Sprintf(`export "e%d" 1 1 512 0 ""`, i))
	}
	d.refuses(api.ErrExports, `export "f" 1 1 512 0 ""`, `export "" 0 0 0 0 ""`, `export "e0" 1 1 512 0 ""`)
	d.refuses(api.ErrCommand, `export "f" 1 1 512 16 ""`, `export "f" 1 1 512 0`)
	d.ok("format 100")
	want(t, "exports", strings.Count(d.do("audit"), "export "), 16)
	d.refuses(api.ErrExports, `export "f" 1 1 512 0 ""`) // format leaves the draft
	d.ok("forget", "forget")
	d.refuses(api.ErrLabel, "format 100")
	d.ok(`export "f" 1 1 512 0 ""`, "format 44")
	d.says("audit", "sectors 44", "label 0 1", `export 0 "f" 1 laid 0 marked 0`, "clean")
}

// P26.2 export: an export that may not be is one of the draft all the same, and Format refuses it.
func TestDraftRefused(t *testing.T) {
	long := strings.Repeat("x", 257)
	for _, x := range []string{
		`"" 8 1 512 0 ""`,
		quote(long) + ` 8 1 512 0 ""`,
		`"\xff" 8 1 512 0 ""`,
		`"\x00" 8 1 512 0 ""`,
		`"a" 8 1 512 0 ` + quote(long),
		`"a" 8 1 512 0 "\xff"`,
		`"a" 0 1 512 0 ""`,
		`"a" 65537 1 512 0 ""`,
		`"a" 2147483647 1 512 0 ""`,
		`"a" 8 0 512 0 ""`,
		`"a" 8 3 512 0 ""`,
		`"a" 8 8192 8192 0 ""`,
		`"a" 9 4096 4096 0 ""`,
		`"a" 8 1 256 0 ""`,
		`"a" 8 1 0 0 ""`,
		`"a" 8 4096 512 0 ""`,
		`"a" 8 1 131072 0 ""`,
		`"a" 8 1 4294967295 0 ""`,
		`"a" 8 1 512 5 ""`,
		`"a" 8 1 512 12 ""`,
		`"a" 65536 1 512 0 ""`,
	} {
		d := deskOf(t, three)
		d.ok("forget", "export "+x)
		d.same(3, func() { d.refuses(api.ErrLabel, "format 60") })
		d.refuses(api.ErrSectors, "format 0")
		d.ok("forget", `export "a" 8 1 512 0 ""`, "format 60")
	}
	d := newDesk(t)
	d.ok(`export "a" 8 1 512 0 ""`, `export "a" 4 1 512 0 ""`)
	d.refuses(api.ErrLabel, "format 80")
	want(t, "bytes of a disk", len(d.image()), 0)
}

// P26.2 format: each size at its bounds.
func TestFormatSizes(t *testing.T) {
	d := newDesk(t)
	d.ok(`export "a" 8 1 512 8 "first"`)
	d.refuses(api.ErrSectors, "format 0", "format 65537", "format 2147483647")
	d.refuses(api.ErrSmall, "format 1", "format 41", "format 42", "format 51")
	for _, n := range []int{52, 60, 4096, 65536} {
		d.ok(fmt.Sprintf("format %d", n))
		want(t, "bytes", len(d.image()), 512*n)
		d.says("audit", fmt.Sprintf("sectors %d", n), "label 0 1", `export 0 "a" 8 laid 0 marked 0`, "clean")
	}
	d.refuses(api.ErrCommand, "format 2147483648")
	d.ok("forget")
	d.refuses(api.ErrSectors, "format 0", "format 65537") // ahead of the label's error
	d.refuses(api.ErrLabel, "format 1", "format 65536")
}

// P26.2 format: of the whole draft, in its order; what stood there is gone, the draft, shelves and archives stay.
func TestFormatAgain(t *testing.T) {
	d := deskOf(t, three)
	d.ok(`write 0 0 "old"`, `write 1 0 "old"`, `shelve "x"`)
	d.says("backup 1 0 0", "archive 1 0 4096 2")
	d.ok("format 90")
	d.says("audit", "sectors 90", "label 0 1", `export 0 "a" 8 laid 0 marked 0`, `export 1 "b" 4 laid 0 marked 0`, `export 2 "p" 3 laid 0 marked 0`, "clean")
	d.says("read 0 0 3", `bytes "\x00\x00\x00"`)
	d.says("archives", "archive 1 0 4096 2")
	d.says("shelves", `shelf "x" 80`)
	for i, x := range []api.Export{
		{Name: "a", Desc: "first", Sectors: 8, Min: 1, Pref: 512, Tracked: true},
		{Name: "b", Sectors: 4, Min: 512, Pref: 4096},
		{Name: "p", Desc: "own", Sectors: 3, Min: 1, Pref: 512, Private: true},
	} {
		a, _ := audit.Look(d.image())
		want(t, itoa(i), a.Label.Exports[i], x)
	}
}
