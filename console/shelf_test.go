package console_test

import (
	"fmt"
	"strings"
	"testing"

	"spindle/api"
)

// P26.2 shelve, shelves, drop: with none, one, as many as may be, one more, in an older one's place; by rising names.
func TestShelves(t *testing.T) {
	d := deskOf(t, first)
	d.ok("shelves")
	names := []string{"b", "", "a", "B", "é", "\xff\x00\n", "aa", "a b"}
	sorted := []string{`""`, `"B"`, `"a"`, `"a b"`, `"aa"`, `"b"`, `"é"`, `"\xff\x00\n"`}
	for i, name := range names {
		d.ok("shelve " + quote(name))
		want(t, "shelves", strings.Count(d.do("shelves"), "\n"), i+1)
	}
	var wanted []string
	for _, name := range sorted {
		wanted = append(wanted, "shelf "+name+" 60")
	}
	d.says("shelves", wanted...)
	d.same(1, func() { d.refuses(api.ErrBusy, `shelve "c"`, `shelve "A"`) })
	d.ok("format 70", `shelve "aa"`)
	wanted[4] = `shelf "aa" 70`
	d.says("shelves", wanted...)
	d.ok(`drop ""`)
	d.says("shelves", wanted[1:]...)
	d.refuses(api.ErrNone, `drop ""`, `use ""`, `differ "" 0`)
	d.ok(`shelve "c"`)
	d.refuses(api.ErrBusy, `shelve ""`)
	for _, name := range append(names[:1:1], append(names[2:], "c")...) {
		d.ok("drop " + quote(name))
	}
	d.ok("shelves")
	d.refuses(api.ErrNone, `drop "c"`)
}

// P26.2 use: the disk is that image; it stays on the shelf, and knows nothing of what is done to the disk.
func TestUse(t *testing.T) {
	d := deskOf(t, three)
	d.ok(`write 0 0 "one"`, `shelve "1"`, `write 0 0 "two"`, `shelve "2"`, "format 100", `shelve "3"`)
	for range 2 {
		d.ok(`use "1"`)
		d.says("read 0 0 3", `bytes "one"`)
		d.ok(`write 0 0 "xyz"`, "trim 0 0 4096", `rename 0 "z"`)
		d.ok(`use "2"`)
		d.says("read 0 0 3", `bytes "two"`)
		d.ok("clear 0", "zero 0 0 4096", "repair force", "format 90")
		d.ok(`use "3"`)
		d.says("audit", "sectors 100", "label 0 1", `export 0 "a" 8 laid 0 marked 0`, `export 1 "b" 4 laid 0 marked 0`, `export 2 "p" 3 laid 0 marked 0`, "clean")
	}
	d.same(3, func() { d.refuses(api.ErrNone, `use "4"`, `use ""`) })
	d.ok(`use "1"`, `drop "1"`)
	d.says("read 0 0 3", `bytes "one"`) // the disk stays
	d.refuses(api.ErrNone, `use "1"`)
	d.ok(`shelve "1"`, "format 90", `use "1"`)
	d.says("read 0 0 3", `bytes "one"`)
}

// P26.2 differ: of shelves that are the same, that differ, of another size, with another label.
func TestDiffer(t *testing.T) {
	d := deskOf(t, three)
	d.ok(`shelve "x"`)
	for i := range 3 {
		d.ok(fmt.Sprintf(`differ "x" %d`, i))
	}
	d.ok(`write 0 510 "abcd"`, `write 0 4095 "e"`, `write 1 7 "\x00a\x00b"`)
	d.says(`differ "x" 0`, "range 510 514", "range 4095 4096")
	d.says(`differ "x" 1`, "range 8 9", "range 10 11")
	d.ok(`differ "x" 2`)
	d.ok(`shelve "y"`, `use "x"`)
	d.says(`differ "y" 0`, "range 510 514", "range 4095 4096")
	d.ok(`differ "x" 0`, `use "y"`, "zero 0 510 4", "trim 0 3584 512", "zero 1 0 2048", "clear 0", `rename 0 "other"`)
	for i := range 3 { // marks, notes and labels are nobody's bytes
		d.ok(fmt.Sprintf(`differ "x" %d`, i))
	}
	d.refuses(api.ErrArg, `differ "x" 3`, `differ "x" 2147483647`)
	d.refuses(api.ErrNone, `differ "z" 0`, `differ "z" 3`)

	d.ok("forget", `export "c" 10 1 512 0 ""`, `export "d" 1 1 512 0 ""`, "format 100", `write 0 0 "q"`)
	d.says(`differ "x" 0`, "range 0 1", "range 4096 5120") // all beyond the end
	d.says(`differ "x" 1`, "range 512 2048")
	d.refuses(api.ErrArg, `differ "x" 2`)
	d.ok(`shelve "z"`, `use "x"`)
	d.says(`differ "z" 0`, "range 0 1", "range 4096 5120")
	d.refuses(api.ErrArg, `differ "z" 2`) // the disk has it, the shelf has not
}

// P26.2 differ: many ranges.
func TestDifferMany(t *testing.T) {
	d := deskOf(t, first)
	d.ok(`shelve "x"`, "write 0 0 "+quote(strings.Repeat("a\x00\x00bc", 800)))
	var wanted []string
	at := 0
	for i := range 800 {
		if i > 0 {
			wanted = append(wanted, fmt.Sprintf("range %d %d", at, 5*i+1))
		} else {
			wanted = append(wanted, "range 0 1")
		}
		at = 5*i + 3
	}
	wanted = append(wanted, fmt.Sprintf("range %d %d", at, 4000))
	d.says(`differ "x" 0`, wanted...)
}
