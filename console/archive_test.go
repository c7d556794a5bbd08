package console_test

import (
	"fmt"
	"strings"
	"testing"

	"spindle/api"
)

// P26.2 backup, archives: what each archive is told to be; by rising IDs; in the place of one with its ID.
func TestBackup(t *testing.T) {
	d := deskOf(t, three)
	d.ok("archives")
	d.says("backup 7 0 0", "archive 7 0 4096 1")
	d.says("backup 18446744073709551615 7 0", "archive 18446744073709551615 7 4096 0")
	d.ok(`write 0 512 "x"`, `write 1 0 "x"`)
	d.says("backup 9 7 0", "archive 9 7 4096 1")
	d.says("backup 10 0 0", "archive 10 0 4096 3")
	d.says("backup 1 0 1", "archive 1 0 2048 2")
	d.says("backup 2 1 1", "archive 2 1 2048 0") // not Tracked: nothing is dirty
	d.says("backup 3 0 2", "archive 3 0 1536 1")
	d.says("archives", "archive 1 0 2048 2", "archive 2 1 2048 0", "archive 3 0 1536 1", "archive 7 0 4096 1", "archive 9 7 4096 1", "archive 10 0 4096 3", "archive 18446744073709551615 7 4096 0")
	d.says("backup 9 18446744073709551615 1", "archive 9 18446744073709551615 2048 0")
	d.says("archives", "archive 1 0 2048 2", "archive 2 1 2048 0", "archive 3 0 1536 1", "archive 7 0 4096 1", "archive 9 18446744073709551615 2048 0", "archive 10 0 4096 3", "archive 18446744073709551615 7 4096 0")
	d.same(3, func() {
		d.refuses(api.ErrArg, "backup 0 0 0", "backup 0 1 0", "backup 5 5 0", "backup 1 1 0", "backup 1 0 3", "backup 5 0 2147483647")
	})
}

// P26.2 backup: runs of holes, of data, of what is dirty.
func TestBackupRuns(t *testing.T) {
	d := deskOf(t, first)
	d.ok("write 0 0 "+quote(strings.Repeat("x", 1024)), `write 0 2048 "x"`)
	d.says("backup 1 0 0", "archive 1 0 4096 4") // data, hole, data, hole
	d.says("backup 2 1 0", "archive 2 1 4096 2")
	d.ok("clear 0")
	d.says("backup 2 1 0", "archive 2 1 4096 0")
	d.ok("trim 0 512 512", `write 0 1024 "y"`)
	d.says("backup 2 1 0", "archive 2 1 4096 2") // a hole, data
	d.says("backup 3 0 0", "archive 3 0 4096 6")
	d.ok("zero 0 0 4096")
	d.says("backup 4 1 0", "archive 4 1 4096 1") // a hole of all
}

// P26.2 backup: as many as may be, one more, in an older one's place.
func TestManyArchives(t *testing.T) {
	d := deskOf(t, first)
	for i := range 32 {
		d.says(fmt.Sprintf("backup %d 0 0", 2*i+1), fmt.Sprintf("archive %d 0 4096 1", 2*i+1))
	}
	d.same(1, func() { d.refuses(api.ErrBusy, "backup 2 0 0", "backup 64 0 0", "backup 65 63 0") })
	d.says("backup 63 1 0", "archive 63 1 4096 0")
	d.says("backup 1 0 0", "archive 1 0 4096 1")
	d.says("join 1 63", "archive 63 0 4096 1") // a join is kept in the place of its second one
	want(t, "archives", strings.Count(d.do("archives"), "\n"), 32)
	d.refuses(api.ErrBusy, "backup 2 0 0")
	d.ok("restore 0 63")
}

// P26.2 join: both are kept; the second one's place has the joined one.
func TestJoin(t *testing.T) {
	d := deskOf(t, three)
	d.ok("write 0 0 " + quote(strings.Repeat("x", 1024)))
	d.says("backup 1 0 0", "archive 1 0 4096 2")
	d.ok("clear 0", "trim 0 0 512", `write 0 1536 "yz"`)
	d.says("backup 2 1 0", "archive 2 1 4096 2")
	d.ok("clear 0", `write 0 0 "z"`)
	d.says("backup 3 2 0", "archive 3 2 4096 1")
	d.says("backup 4 0 1", "archive 4 0 2048 1")
	d.says("backup 5 4 0", "archive 5 4 4096 1")
	d.same(3, func() {
		d.refuses(api.ErrNone, "join 9 1", "join 1 9", "join 9 9", "join 0 0", "join 18446744073709551615 1")
		d.refuses(api.ErrLink, "join 1 3", "join 2 1", "join 1 1", "join 3 2", "join 4 5")
	})
	d.says("join 2 3", "archive 3 1 4096 2") // data of both that lie apart
	d.says("archives", "archive 1 0 4096 2", "archive 2 1 4096 2", "archive 3 1 4096 2", "archive 4 0 2048 1", "archive 5 4 4096 1")
	before := d.array(0)
	d.ok("zero 0 0 4096", "restore 0 1 3")
	want(t, "bytes", d.array(0), before)
	d.refuses(api.ErrLink, "restore 0 1 2 3", "restore 0 3")
	d.says("join 1 3", "archive 3 0 4096 4") // data; data of 512 bytes and a hole; data; a hole
	d.ok("zero 0 0 4096", "restore 0 3")
	want(t, "bytes", d.array(0), before)
	d.ok("restore 0 1 2")
	want(t, "bytes", d.array(0), strings.Repeat("\x00", 512)+strings.Repeat("x", 512)+strings.Repeat("\x00", 512)+"yz"+strings.Repeat("\x00", 2558))
}

// P26.2 restore: chains that are whole, with a link left out, of another size, with one ID twice, of archives that are not kept.
func TestRestore(t *testing.T) {
	d := deskOf(t, three)
	d.ok(`write 0 0 "one"`)
	d.says("backup 1 0 0", "archive 1 0 4096 2")
	d.ok("clear 0", `write 0 600 "two"`)
	d.says("backup 2 1 0", "archive 2 1 4096 1")
	d.ok("clear 0", `write 0 3 "three"`)
	d.says("backup 3 2 0", "archive 3 2 4096 1")
	d.says("backup 4 0 1", "archive 4 0 2048 1")
	d.ok(`write 0 0 "four, and more"`)
	d.same(3, func() {
		d.refuses(api.ErrLink, "restore 0 2", "restore 0 1 3", "restore 0 2 3", "restore 0 3 2 1", "restore 0 1 1", "restore 0 1 2 2", "restore 0 1 2 3 1", "restore 0 1 4", "restore 0 4 1")
		d.refuses(api.ErrDevice, "restore 0 4", "restore 1 1", "restore 1 1 2 3", "restore 2 4")
		d.refuses(api.ErrNone, "restore 0 5", "restore 0 1 5", "restore 0 5 1", "restore 0 0", "restore 0 2 5", "restore 1 1 5", "restore 0 18446744073709551615")
		d.refuses(api.ErrArg, "restore 3 1", "restore 3 5", "restore 2147483647 1 2")
	})
	for _, x := range []struct{ line, bytes string }{
		{"restore 0 1 2 3", "onethree\x00"},
		{"restore 0 1", "one\x00\x00\x00\x00\x00\x00"},
		{"restore 0 1 2", "one\x00\x00\x00\x00\x00\x00"},
	} {
		d.ok(x.line)
		want(t, x.line, d.array(0)[:9], x.bytes)
		d.says("extents 0", "run 0 4096 dirty") // all of it is written
	}
	want(t, "bytes of the second link", d.array(0)[600:603], "two")
	d.ok("restore 1 4")
	d.says("extents 1", "run 0 2048")
	d.says("extents 2", "run 0 1536 hole")
	d.says("archives", "archive 1 0 4096 2", "archive 2 1 4096 1", "archive 3 2 4096 1", "archive 4 0 2048 1")
}

// P26.2 restore: onto another disk, another export, of the same size; archives outlive format and use.
func TestRestoreElsewhere(t *testing.T) {
	d := deskOf(t, three)
	d.ok(`write 2 100 "own"`)
	d.says("backup 1 0 2", "archive 1 0 1536 2")
	d.ok("forget", `export "x" 1 1 512 0 ""`, `export "y" 3 1 512 0 ""`, "format 60")
	d.refuses(api.ErrDevice, "restore 0 1")
	d.ok("restore 1 1")
	d.says("read 1 99 5", `bytes "\x00own\x00"`)
	d.says("read 0 0 1", `bytes "\x00"`)
}
