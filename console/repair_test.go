package console_test

import (
	"bytes"
	"fmt"
	"testing"

	"spindle/api"
	"spindle/audit"
	"spindle/label"
)

// broken are disks that something has happened to: each lays bytes into the image of the chapter's disk.
var broken = map[string]func([]byte){
	"as it was":       func([]byte) {},
	"no head":         func(b []byte) { b[512] = 7 },
	"a wrong head":    func(b []byte) { b[0] ^= 1 },
	"a wrong body":    func(b []byte) { b[2*512] ^= 1 },
	"notes":           func(b []byte) { b[42*512+1] = 0x81 },
	"marks":           func(b []byte) { b[43*512+511] = 3 },
	"notes and marks": func(b []byte) { b[42*512+1], b[43*512+1] = 1, 1 },
	"nothing":         func(b []byte) { clear(b) },
	"two heads":       func(b []byte) { copy(b[512:1024], b[:512]); copy(b[22*512:42*512], b[2*512:22*512]) },
	"two, one wrong":  func(b []byte) { copy(b[512:1024], b[:512]) },
	"an older body":   func(b []byte) { second(b); b[2*512] ^= 1 },
	"a newer body":    func(b []byte) { second(b); b[22*512] ^= 1 },
	"both bodies":     func(b []byte) { second(b); b[2*512] ^= 1; b[22*512] ^= 1 },
}

// second lays a second label into the other slot.
func second(b []byte) {
	head, body, _ := label.Encode(api.Label{Exports: []api.Export{{Name: "new", Sectors: 8, Min: 1, Pref: 512, Tracked: true}}}, 2)
	copy(b[512:], head)
	copy(b[22*512:], body)
}

// P26.2 audit, repair: of disks that are clean and that are not.
func TestRepair(t *testing.T) {
	for what, lay := range broken {
		for _, force := range []bool{false, true} {
			d := deskOf(t, first)
			image := d.image()
			lay(image)
			d.c.Lay(image)
			a, _ := audit.Look(image)
			want(t, what+": audit", d.do("audit"), audit.Tell(a))
			wanted, _ := audit.Repair(image, force)
			line := "repair"
			if force {
				line = "repair force"
			}
			d.ok(line)
			want(t, what+": "+line, bytes.Equal(d.image(), wanted), true)
			a, _ = audit.Look(wanted)
			want(t, what+": audit behind "+line, d.do("audit"), audit.Tell(a))
			d.ok(line)
			want(t, what+": "+line+" once more", bytes.Equal(d.image(), wanted), true)
		}
	}
}

// P26.2: every line with an export, over a disk without a label: what label.Load answers comes ahead of error 2, of all errors of what follows, and of names that stand behind.
func TestNoLabel(t *testing.T) {
	for what, wanted := range map[string]api.Errno{"nothing": api.ErrNone, "a wrong head": api.ErrNone, "a wrong body": api.ErrSpoilt, "a newer body": api.ErrSpoilt} {
		d := deskOf(t, first)
		d.ok(`shelve "x"`)
		d.says("backup 1 0 0", "archive 1 0 4096 1")
		image := d.image()
		broken[what](image)
		d.c.Lay(image)
		for _, i := range []int{0, 1, 2147483647} {
			d.refuses(wanted,
				fmt.Sprintf(`rename %d "b"`, i), fmt.Sprintf(`rename %d ""`, i), fmt.Sprintf(`describe %d "b"`, i), fmt.Sprintf("readonly %d on", i), fmt.Sprintf("readonly %d off", i),
				fmt.Sprintf("read %d 0 1", i), fmt.Sprintf("read %d 9999 1", i), fmt.Sprintf(`write %d 0 "x"`, i), fmt.Sprintf(`write %d 0 ""`, i), fmt.Sprintf("zero %d 0 1", i), fmt.Sprintf("trim %d 0 1", i),
				fmt.Sprintf("extents %d", i), fmt.Sprintf("clear %d", i), fmt.Sprintf("backup 2 0 %d", i), fmt.Sprintf("backup 0 0 %d", i), fmt.Sprintf("restore %d 1", i), fmt.Sprintf("restore %d 9", i))
			d.refuses(api.ErrNone, fmt.Sprintf(`differ "x" %d`, i), fmt.Sprintf(`differ "y" %d`, i)) // audit's own error
		}
		d.ok(`shelve "spoilt"`)
		d.says("archives", "archive 1 0 4096 1")
		d.says("join 1 1", "error 251")
		d.ok(`use "x"`)
		d.refuses(api.ErrNone, `differ "spoilt" 0`)
		d.refuses(api.ErrArg, `differ "spoilt" 1`) // the disk's error ahead of the shelf's
		d.says("read 0 0 1", `bytes "\x00"`)
		d.ok(`use "spoilt"`)
		d.refuses(wanted, "read 0 0 1")
		d.ok("format 60")
		d.says("read 0 0 1", `bytes "\x00"`)
	}
}

// P26.2: a disk that has fewer sectors than its label tells.
func TestSmallDisk(t *testing.T) {
	d := deskOf(t, first)
	for sectors, wanted := range map[int]api.Errno{51: api.ErrSmall, 43: api.ErrSmall, 42: api.ErrSmall, 41: api.ErrNone, 1: api.ErrNone} {
		image := d.image()[:512*sectors]
		small := newDesk(t)
		small.c.Lay(image)
		small.refuses(wanted, "read 0 0 1", "extents 1", `rename 0 "b"`)
		want(t, "audit", small.do("audit")[:len("sectors "+itoa(sectors))], "sectors "+itoa(sectors))
		small.ok("repair", `shelve "x"`)
		small.says("shelves", fmt.Sprintf(`shelf "x" %d`, sectors))
	}
}

// P26.2: a spoilt body leaves the lines about other things alone; repair force brings the older label back.
func TestRepairForce(t *testing.T) {
	d := deskOf(t, first)
	d.ok(`write 0 0 "x"`, `rename 0 "b"`)
	image := d.image()
	image[22*512+5] ^= 0xff // the body in force
	d.c.Lay(image)
	d.refuses(api.ErrSpoilt, "read 0 0 1")
	d.ok("repair")
	d.refuses(api.ErrSpoilt, "read 0 0 1")
	d.says("audit", "sectors 60", "label 1 2", "body 1", "not clean")
	d.ok("repair force")
	d.says("audit", "sectors 60", "label 0 1", `export 0 "a" 8 laid 1 marked 1`, "clean")
	d.says("read 0 0 1", `bytes "x"`)
}

// P26.2: bytes that are no disk: the first call's error.
func TestNoImage(t *testing.T) {
	d := deskOf(t, first)
	d.ok(`shelve "x"`)
	d.c.Lay(make([]byte, 511))
	d.refuses(api.ErrSectors, "audit", "repair", "repair force", "read 0 0 1", "extents 0", `rename 0 ""`, "backup 0 0 0", "restore 0 9", "clear 1", `differ "x" 9`)
	d.ok(`use "x"`)
	d.says("read 0 0 1", `bytes "\x00"`)
}
