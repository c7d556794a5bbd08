package console_test

import (
	"fmt"
	"strings"
	"testing"

	"spindle/api"
	"spindle/audit"
)

// What follows (P26.5).

// change throws a line that changes an export of so many bytes, and does it to an array.
func change(r *dice, export int, array []byte) string {
	off := r.below(len(array))
	n := 1 + r.below(min(len(array)-off, 1500))
	at := fmt.Sprintf("%d %d", export, off)
	switch r.below(4) {
	case 0:
		clear(array[off : off+n])
		return fmt.Sprintf("zero %s %d", at, n)
	case 1:
		if lo, hi := (off+511)/512*512, (off+n)/512*512; lo < hi {
			clear(array[lo:hi])
		}
		return fmt.Sprintf("trim %s %d", at, n)
	}
	b := make([]byte, n)
	for i := range b {
		b[i] = byte(r.below(256))
	}
	copy(array[off:], b)
	return fmt.Sprintf("write %s %s", at, quote(string(b)))
}

// wantArray asks that read, audit.Bytes and an array have the same bytes.
func (d desk) wantArray(export int, array []byte) {
	d.Helper()
	d.says(fmt.Sprintf("read %d 0 %d", export, len(array)), "bytes "+quote(string(array)))
	want(d.T, fmt.Sprintf("bytes of export %d", export), d.array(export), string(array))
}

// others does lines that change no bytes.
func (d desk) others(r *dice) {
	d.Helper()
	switch r.below(8) {
	case 0:
		d.ok(pick(r, "repair", "repair force", "readonly 1 on", "readonly 0 off", "forget", `rename 1 "x"`, `describe 0 "y"`, "clear 0", `shelve "s"`, "trim 1 100 500", "zero 0 9 0", `write 1 0 ""`))
	case 1:
		d.tells(pick(r, "audit", "archives", "shelves", "extents 0", "extents 1", `use "nothing"`, `drop "s"`, "format 1", "backup 77 0 0", "join 77 77", "restore 0 78", "nonsense", `write 0 9999 "x"`, `differ "s" 0`, "export x"))
	}
}

// The disk is clean, and read tells the bytes of an array.
func TestArray(t *testing.T) {
	for seed := range 15 {
		r := dice(seed)
		d := deskOf(t, three)
		arrays := [][]byte{make([]byte, 4096), make([]byte, 2048), make([]byte, 1536)}
		for range 60 {
			i := r.below(3)
			d.ok(change(&r, i, arrays[i]))
			d.others(&r)
			d.wantArray(i, arrays[i])
			a, _ := audit.Look(d.image())
			want(t, "clean", audit.Clean(a), true)
		}
		for i, array := range arrays {
			d.wantArray(i, array)
		}
	}
}

// A restore of a whole backup brings back its moment.
func TestWholeRestored(t *testing.T) {
	for seed := range 10 {
		r := dice(seed)
		d := deskOf(t, three)
		for i, size := range []int{4096, 2048, 1536} {
			array := make([]byte, size)
			moments := map[int][]byte{}
			for id := 1; id <= 10; id++ {
				for range r.below(4) {
					d.ok(change(&r, i, array))
					d.others(&r)
				}
				if got := d.do(fmt.Sprintf("backup %d 0 %d", 100*i+id, i)); !strings.HasPrefix(got, fmt.Sprintf("archive %d 0 %d ", 100*i+id, size)) {
					t.Errorf("backup: %q", got)
				}
				moments[id] = append([]byte{}, array...)
				if back := 1 + r.below(id); r.bool() {
					d.ok(fmt.Sprintf("restore %d %d", i, 100*i+back))
					array = append([]byte{}, moments[back]...)
				}
				d.wantArray(i, array)
			}
		}
	}
}

// A restore of a chain of marked ones, with a clear behind each, brings back the moment of its last archive; so does one with neighbours joined.
func TestChainRestored(t *testing.T) {
	for seed := range 25 {
		r := dice(seed)
		d := deskOf(t, three)
		array := make([]byte, 4096)
		var moments [][]byte
		for id := range 8 {
			for range r.below(3) {
				d.ok(change(&r, 0, array))
			}
			if strings.HasPrefix(d.do(fmt.Sprintf("backup %d %d 0", id+1, id)), "error") {
				t.Fatal("backup")
			}
			d.ok("clear 0")
			moments = append(moments, append([]byte{}, array...))
		}
		for range 6 { // the marks may be any from now on
			d.ok(change(&r, 0, array))
			last := r.below(8)
			chain := ""
			for id := range last + 1 {
				chain += fmt.Sprintf(" %d", id+1)
			}
			d.ok("restore 0" + chain)
			array = append([]byte{}, moments[last]...)
			d.wantArray(0, array)
		}
		for id := 2; id <= 8; id++ { // the first one, and all that are joined to it
			d.tells(fmt.Sprintf("join %d %d", id-1, id))
			d.ok(fmt.Sprintf("restore 0 %d", id))
			d.wantArray(0, moments[id-1])
		}
	}
}

// A chain goes on behind a restore: what that writes is marked.
func TestChainBehindRestore(t *testing.T) {
	r := dice(3)
	d := deskOf(t, first)
	array := make([]byte, 4096)
	d.ok(change(&r, 0, array))
	d.tells("backup 1 0 0")
	d.ok("clear 0", change(&r, 0, array))
	d.tells("backup 2 1 0")
	d.ok("clear 0", "restore 0 1")
	d.says("backup 3 2 0", "archive 3 2 4096 1")
	d.ok("clear 0")
	wanted := d.array(0)
	d.ok("zero 0 0 4096", "restore 0 1 2 3")
	want(t, "bytes", d.array(0), wanted)
}

// Behind shelve and use of one name differ tells nothing.
func TestShelvedAndUsed(t *testing.T) {
	for seed := range 10 {
		r := dice(seed)
		d := deskOf(t, three)
		arrays := [][]byte{make([]byte, 4096), make([]byte, 2048), make([]byte, 1536)}
		for range 12 {
			for range r.below(3) {
				i := r.below(3)
				d.ok(change(&r, i, arrays[i]))
			}
			d.ok(`shelve "x"`)
			if r.bool() {
				d.ok(change(&r, 0, append([]byte{}, arrays[0]...)), `rename 2 "other"`)
				d.others(&r)
				d.do(`shelve "y"`)
			}
			d.ok(`use "x"`)
			for i, array := range arrays {
				d.ok(fmt.Sprintf(`differ "x" %d`, i))
				d.wantArray(i, array)
			}
		}
	}
}

// Over disks of many note sectors, with lines that touch all of them.
func TestLarge(t *testing.T) {
	d := deskOf(t, []string{`export "a" 9000 1 512 8 ""`, `export "b" 5000 1 512 0 ""`, "format 15000"})
	whole := strings.Repeat("spindle\x00", 9000*64)
	d.ok("write 0 0 " + quote(whole))
	d.says("extents 0", fmt.Sprintf("run 0 %d dirty", 9000*512))
	d.says("backup 1 0 0", fmt.Sprintf("archive 1 0 %d 1", 9000*512))
	d.ok("clear 0", fmt.Sprintf("trim 0 %d %d", 4000*512, 200*512), fmt.Sprintf("zero 0 %d 5", 8999*512))
	d.says("backup 2 1 0", fmt.Sprintf("archive 2 1 %d 2", 9000*512))
	d.says("audit", "sectors 15000", "label 0 1", `export 0 "a" 9000 laid 8800 marked 201`, `export 1 "b" 5000 laid 0 marked 0`, "clean")
	wanted := d.array(0)
	d.ok(fmt.Sprintf("zero 0 0 %d", 9000*512), "restore 0 1 2")
	want(t, "bytes", d.array(0) == wanted, true)
	want(t, "a part of them", wanted[4000*512-8:4000*512+1], "spindle\x00\x00")
	d.refuses(api.ErrDevice, "restore 1 1")
	d.says("audit", "sectors 15000", "label 0 1", `export 0 "a" 9000 laid 9000 marked 9000`, `export 1 "b" 5000 laid 0 marked 0`, "clean")
}
