package console_test

import (
	"fmt"
	"testing"

	"spindle/api"
)

// crowded is a desk at which as much is kept as may be: shelves "0" to "7", archives 1 to 32. Archive 1 is a whole one of export 0, archive 2 follows it, archive 3 is a whole one of export 1, archive 4 follows it, all others are whole.
func crowded(t *testing.T) desk {
	t.Helper()
	d := deskOf(t, three)
	for i := range 8 {
		d.ok(fmt.Sprintf(`shelve "%d"`, i))
	}
	for i := range 32 {
		parent, export := 0, 0
		switch i {
		case 1:
			parent = 1
		case 2:
			export = 1
		case 3:
			parent, export = 3, 1
		}
		d.do(fmt.Sprintf("backup %d %d %d", i+1, parent, export))
	}
	return d
}

// P26.2: the order in which errors are looked for, two at a time.
func TestOrder(t *testing.T) {
	d := crowded(t)
	d.same(3, func() {
		// The line's form ahead of names, of calls, of what there is no room for.
		d.refuses(api.ErrCommand, "read 9 0", "read 9 0 2147483648", "read 9 0 -1", `write 9 0 x`, "restore 9", "restore 9 x", "restore 0 99 x", "restore 9 1 -", "join 99", "join 99 x", "differ 9 9", `differ "9" x`, "shelve 9", `shelve "9" 9`, "backup 99 0", "backup 0 0 x", "backup 99 0 2147483648", "readonly 9 maybe", "rename 9 b", "rename 9", "clear 9 9", `use 9`, `drop "9" 9`)
		// An export ahead of what is done with it, and of names behind it.
		d.refuses(api.ErrArg, "read 3 9999 1", `write 3 9999 "x"`, "zero 3 9999 1", "trim 3 9999 1", `rename 3 ""`, "clear 3", "restore 3 99", "restore 3 2", "restore 3 3", "backup 99 0 3", "backup 0 0 3", "readonly 3 on")
		// An archive that is not kept ahead of what is done with it, the export's size among that.
		d.refuses(api.ErrNone, "restore 0 2 99", "restore 0 99 2", "restore 1 1 99", "join 99 2", "join 2 99", "join 1 99")
		// A shelf ahead of the export.
		d.refuses(api.ErrNone, `differ "9" 9`, `differ "9" 0`)
		d.refuses(api.ErrArg, `differ "0" 9`)
		// A chain that does not hold ahead of its size.
		d.refuses(api.ErrLink, "restore 1 2", "restore 1 1 3", "restore 0 4", "restore 2 1 4")
		d.refuses(api.ErrDevice, "restore 2 1", "restore 1 1 2", "restore 0 3 4")
		// What Make refuses ahead of the room that is not there.
		d.refuses(api.ErrArg, "backup 0 0 0", "backup 99 99 0", "backup 0 1 0")
		d.refuses(api.ErrBusy, "backup 99 0 0", "backup 33 32 1", `shelve "9"`, `shelve ""`)
	})
	// The disk ahead of all that follows: its error is that of names that are not kept, but no other one's.
	d.c.Lay(nil)
	d.refuses(api.ErrNone, `shelve "9"`, "backup 99 0 0", "backup 0 0 9", "restore 0 2", "restore 9 1", "join 1 3", "join 2 1", "clear 1", "read 9 0 0", `rename 0 ""`, `differ "0" 9`, "archives", "repair", "repair force", "audit", "extents 0", `shelve "0"`)
	d.refuses(api.ErrCommand, "archives 1", `shelve 9`, "backup 99 0")
}

// P26.2: a refused line leaves all as it was, the draft too.
func TestRefusedLeavesDraft(t *testing.T) {
	d := newDesk(t)
	d.ok(`export "a" 8 1 512 0 ""`)
	d.refuses(api.ErrCommand, `export "b" 8 1 512 16 ""`, `export "b" 8 1 512 0 x`, `export "b" 8 1 512 0 "" 0`, `export "b" 8 1 512 0`, "forget 1", "forget all", `forget "a"`)
	d.refuses(api.ErrSmall, "format 42")
	d.refuses(api.ErrNone, "read 0 0 1", `use "a"`)
	d.ok("format 60")
	d.says("audit", "sectors 60", "label 0 1", `export 0 "a" 8 laid 0 marked 0`, "clean")
}

// P26.2: an archive, a shelf is another one only when its line is done.
func TestRefusedLeavesKept(t *testing.T) {
	d := crowded(t)
	d.ok(`write 0 0 "x"`)
	d.refuses(api.ErrArg, "backup 1 1 0", "backup 1 0 9")
	d.refuses(api.ErrLink, "join 3 2")
	d.refuses(api.ErrBusy, `shelve "8"`)
	for _, line := range []string{"read 0 0 1", `differ "0" 0`} {
		want(t, line, d.do(line) == "ok\n", false)
	}
	d.ok("restore 0 1")
	d.says("read 0 0 1", `bytes "\x00"`)
	d.ok(`differ "0" 0`)
}
