package console_test

import (
	"fmt"
	"strings"
	"testing"

	"spindle/api"
	"spindle/audit"
	"spindle/server"
)

// array gives a part of an export's bytes, as the disk has them.
func (d desk) array(export int) string {
	d.Helper()
	b, e := audit.Bytes(d.image(), export)
	if e != api.OK {
		d.Fatalf("export %d: error %d", export, e)
	}
	return string(b)
}

// P26.2 read, write, zero, trim: at an export's ends and beyond, of a track and of volumes.
func TestBounds(t *testing.T) {
	d := deskOf(t, three)
	for i, size := range []int{4096, 2048, 1536} {
		d.ok(fmt.Sprintf(`write %d 0 "A"`, i), fmt.Sprintf(`write %d %d "Z"`, i, size-1), fmt.Sprintf(`write %d %d ""`, i, size))
		d.says(fmt.Sprintf("read %d 0 1", i), `bytes "A"`)
		d.says(fmt.Sprintf("read %d %d 1", i, size-1), `bytes "Z"`)
		d.says(fmt.Sprintf("read %d %d 0", i, size), `bytes ""`)
		d.says(fmt.Sprintf("read %d 0 0", i), `bytes ""`)
		d.says(fmt.Sprintf("read %d 0 %d", i, size), `bytes "A`+strings.Repeat(`\x00`, size-2)+`Z"`)
		d.same(3, func() {
			for _, at := range []string{
				fmt.Sprintf("%d 0 %d", i, size+1),
				fmt.Sprintf("%d 1 %d", i, size),
				fmt.Sprintf("%d %d 1", i, size),
				fmt.Sprintf("%d %d 0", i, size+1),
				fmt.Sprintf("%d 18446744073709551615 1", i),
				fmt.Sprintf("%d 18446744073709551615 0", i),
				fmt.Sprintf("%d 18446744073709551615 2147483647", i),
				fmt.Sprintf("%d 0 2147483647", i),
			} {
				d.refuses(api.ErrBounds, "read "+at, "zero "+at, "trim "+at)
			}
			d.refuses(api.ErrBounds, fmt.Sprintf("zero %d 1 18446744073709551615", i), fmt.Sprintf("trim %d 1 18446744073709551615", i), fmt.Sprintf("zero %d 0 18446744073709551615", i))
			d.refuses(api.ErrBounds, fmt.Sprintf(`write %d %d "x"`, i, size), fmt.Sprintf(`write %d %d "xx"`, i, size-1), fmt.Sprintf(`write %d %d ""`, i, size+1), fmt.Sprintf(`write %d 18446744073709551615 "xx"`, i), fmt.Sprintf("write %d 0 %s", i, quote(strings.Repeat("x", size+1))))
			d.ok(fmt.Sprintf("zero %d %d 0", i, size), fmt.Sprintf("trim %d %d 0", i, size), fmt.Sprintf("zero %d 0 0", i), fmt.Sprintf("trim %d 5 0", i))
		})
		d.ok(fmt.Sprintf("zero %d 0 %d", i, size))
		want(t, "bytes", d.array(i), strings.Repeat("\x00", size))
		d.ok(fmt.Sprintf("write %d 0 %s", i, quote(strings.Repeat("x", size))))
		want(t, "bytes", d.array(i), strings.Repeat("x", size))
		d.ok(fmt.Sprintf("trim %d 0 %d", i, size))
		want(t, "bytes", d.array(i), strings.Repeat("\x00", size))
	}
	d.refuses(api.ErrArg, "read 3 0 0", `write 3 0 ""`, "zero 3 0 0", "trim 3 0 0", "extents 3", "clear 3", "read 2147483647 18446744073709551615 1")
}

// P26.2 read: the bytes are told as Quote writes them, and write takes all that it writes.
func TestAnyBytes(t *testing.T) {
	d := deskOf(t, first)
	all := make([]byte, 512)
	for i := range all {
		all[i] = byte(i * 7)
	}
	text := string(all) + "é\"\\\n\x7f\u2028😀"
	d.ok("write 0 300 " + quote(text))
	d.says(fmt.Sprintf("read 0 300 %d", len(text)), "bytes "+quote(text))
	want(t, "bytes", d.array(0)[300:][:len(text)], text)
}

// P26.2 write, zero, trim: what is touched, and what is kept around it.
func TestChanges(t *testing.T) {
	d := deskOf(t, three)
	d.ok("write 1 0 " + quote(strings.Repeat("x", 2048)))
	d.ok("zero 1 100 1000") // parts of two sectors, and one whole
	want(t, "bytes", d.array(1), strings.Repeat("x", 100)+strings.Repeat("\x00", 1000)+strings.Repeat("x", 948))
	d.says("extents 1", "run 0 512", "run 512 512 hole", "run 1024 1024")
	d.ok("trim 1 1023 1000") // the sector 2 alone lies in it
	want(t, "bytes", d.array(1), strings.Repeat("x", 100)+strings.Repeat("\x00", 1436)+strings.Repeat("x", 512))
	d.says("extents 1", "run 0 512", "run 512 1024 hole", "run 1536 512")
	d.ok("trim 1 0 511", "trim 1 1537 511")
	want(t, "bytes", d.array(1)[1536:], strings.Repeat("x", 512))
	d.ok("zero 1 1536 512") // not kept: a hole
	d.says("extents 1", "run 0 512", "run 512 1536 hole")
	d.ok(`write 1 511 "yz"`)
	d.says("read 1 510 4", `bytes "\x00yz\x00"`)
	for i, size := range []int{4096, 1536} {
		want(t, "bytes of another export", d.array(2*i), strings.Repeat("\x00", size))
	}
}

// P26.2 extents: holes, what is laid out, what is dirty.
func TestExtents(t *testing.T) {
	d := deskOf(t, three)
	d.says("extents 0", "run 0 4096 hole")
	d.says("extents 1", "run 0 2048 hole")
	d.says("extents 2", "run 0 1536 hole")
	d.ok(`write 0 1000 "abcdefghijklmnopqrstuvwxyz"`)
	d.says("extents 0", "run 0 512 hole", "run 512 1024 dirty", "run 1536 2560 hole")
	d.ok("zero 0 2048 512") // a hole that is marked
	d.says("extents 0", "run 0 512 hole", "run 512 1024 dirty", "run 1536 512 hole", "run 2048 512 hole dirty", "run 2560 1536 hole")
	d.ok("trim 0 512 512")
	d.says("extents 0", "run 0 512 hole", "run 512 512 hole dirty", "run 1024 512 dirty", "run 1536 512 hole", "run 2048 512 hole dirty", "run 2560 1536 hole")
	d.ok("clear 0")
	d.says("extents 0", "run 0 1024 hole", "run 1024 512", "run 1536 2560 hole")
	d.ok(`write 0 4095 "x"`)
	d.says("extents 0", "run 0 1024 hole", "run 1024 512", "run 1536 2048 hole", "run 3584 512 dirty")
	d.ok("clear 0", "clear 0")
	d.says("extents 0", "run 0 1024 hole", "run 1024 512", "run 1536 2048 hole", "run 3584 512")
	d.ok(`write 1 512 "x"`, `write 2 0 "x"`)
	d.says("extents 1", "run 0 512 hole", "run 512 512", "run 1024 1024 hole")
	d.says("extents 2", "run 0 512", "run 512 1024 hole")
}

// P26.2 extents: more note sectors than one, and many runs.
func TestManyExtents(t *testing.T) {
	d := deskOf(t, []string{`export "a" 9000 1 512 8 ""`, "format 9100"})
	d.ok(fmt.Sprintf("write 0 %d %s", 4095*512, quote(strings.Repeat("x", 1024))), fmt.Sprintf(`write 0 %d "x"`, 9000*512-1))
	d.says("extents 0", fmt.Sprintf("run 0 %d hole", 4095*512), fmt.Sprintf("run %d 1024 dirty", 4095*512), fmt.Sprintf("run %d %d hole", 4097*512, 4902*512), fmt.Sprintf("run %d 512 dirty", 8999*512))
	d.says("audit", "sectors 9100", "label 0 1", `export 0 "a" 9000 laid 3 marked 3`, "clean")
	d = deskOf(t, []string{`export "a" 300 1 512 0 ""`, "format 400"})
	var wanted []string
	for i := range 150 {
		d.ok(fmt.Sprintf(`write 0 %d "x"`, 1024*i))
		wanted = append(wanted, fmt.Sprintf("run %d 512", 1024*i), fmt.Sprintf("run %d 512 hole", 1024*i+512))
	}
	d.says("extents 0", wanted...)
}

// P26.2 clear: of an export that is Tracked, and of ones that are not.
func TestClear(t *testing.T) {
	d := deskOf(t, three)
	d.same(3, func() { d.refuses(api.ErrMarks, "clear 1", "clear 2") })
	d.same(3, func() { d.ok("clear 0") })
	d.ok(`write 0 0 "x"`, `write 1 0 "x"`)
	d.says("audit", "sectors 80", "label 0 1", `export 0 "a" 8 laid 1 marked 1`, `export 1 "b" 4 laid 1 marked 0`, `export 2 "p" 3 laid 0 marked 0`, "clean")
	d.ok("clear 0")
	d.says("audit", "sectors 80", "label 0 1", `export 0 "a" 8 laid 1 marked 0`, `export 1 "b" 4 laid 1 marked 0`, `export 2 "p" 3 laid 0 marked 0`, "clean")
	d.says("read 0 0 2", `bytes "x\x00"`)
}

// P26.2: what a line has changed is safe when it is answered: a server over the image serves it.
func TestSafeAtOnce(t *testing.T) {
	d := deskOf(t, three)
	for n, line := range []string{`write 0 510 "xyz"`, `write 1 100 "b"`, `write 2 0 "p"`, "zero 0 511 1", "clear 0", "trim 0 512 512", `rename 0 "c"`} {
		d.ok(line)
		s, e := server.New(d.image(), api.Config{Lines: 2, Conns: 1, Limits: api.Limits{Payload: 512, Option: 64, Flight: 1}})
		if e != api.OK {
			t.Fatalf("%s: error %d", line, e)
		}
		for i := range 3 {
			b, _ := s.Peek(i)
			want(t, fmt.Sprintf("behind line %d: export %d", n, i), string(b), d.array(i))
		}
		want(t, line, s.Label().Exports[0].Name, d.exports()[0].Name)
	}
	want(t, "export 0", d.array(0), strings.Repeat("\x00", 510)+"x"+strings.Repeat("\x00", 3585))
}
