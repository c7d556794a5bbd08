package console_test

import (
	"bytes"
	"fmt"
	"strings"
	"testing"

	"spindle/api"
	"spindle/console"
	"spindle/octet"
)

func want[T comparable](t *testing.T, what string, got, want T) {
	t.Helper()
	if got != want {
		t.Errorf("%s: %v, want %v", what, got, want)
	}
}

// dice gives numbers that look as if thrown, the same ones in each run.
type dice uint64

func (d *dice) below(n int) int {
	*d = *d*6364136223846793005 + 1442695040888963407
	return int(uint64(*d)>>33) % n
}

func (d *dice) bool() bool { return d.below(2) == 1 }

// pick throws for one of a list.
func pick[T any](d *dice, list ...T) T { return list[d.below(len(list))] }

// A desk is a console that is looked at around each line.
type desk struct {
	*testing.T
	c *console.Console
}

func newDesk(t *testing.T) desk {
	t.Helper()
	c := console.New()
	if c == nil {
		t.Fatal("New: none")
	}
	return desk{t, c}
}

// image tells the disk's bytes, with what was told before written over (P26.3, R4).
func (d desk) image() []byte {
	d.Helper()
	first := d.c.Image()
	kept := bytes.Clone(first)
	first = first[:cap(first)]
	for i := range first {
		first[i] ^= 0x5a
	}
	second := d.c.Image()
	if !bytes.Equal(second, kept) {
		d.Errorf("Image: other bytes, when those that it told were written over")
	}
	return second
}

// do does a line. What it is refused must leave the disk as it was, and only its own lines are told.
func (d desk) do(line string) string {
	d.Helper()
	before := d.image()
	got := d.c.Do(line)
	if strings.HasPrefix(got, "error ") && !bytes.Equal(d.image(), before) {
		d.Errorf("%.200s: %q, and the disk is another", line, got)
	}
	if got != "" && !strings.HasSuffix(got, "\n") {
		d.Errorf("%.200s: %.300q has no end", line, got)
	}
	return got
}

// says does a line, and asks for the lines that it answers.
func (d desk) says(line string, wanted ...string) {
	d.Helper()
	text := ""
	for _, w := range wanted {
		text += w + "\n"
	}
	if got := d.do(line); got != text {
		d.Errorf("%.200s: %.2000q, want %.2000q", line, got, text)
	}
}

// ok does lines of which each answers ok.
func (d desk) ok(lines ...string) {
	d.Helper()
	for _, line := range lines {
		d.says(line, "ok")
	}
}

// refuses asks that lines answer an error.
func (d desk) refuses(e api.Errno, lines ...string) {
	d.Helper()
	for _, line := range lines {
		d.says(line, fmt.Sprintf("error %d", e))
	}
}

// tells does lines that tell, and gives all that they told.
func (d desk) tells(lines ...string) string {
	d.Helper()
	out := ""
	for _, line := range lines {
		out += d.do(line)
	}
	return out
}

// same asks that a thing does not change what the console has, as far as it tells that.
func (d desk) same(exports int, do func()) {
	d.Helper()
	before, image := d.all(exports), d.image()
	do()
	if got := d.all(exports); got != before {
		d.Errorf("%.3000q, was %.3000q", got, before)
	}
	if !bytes.Equal(d.image(), image) {
		d.Errorf("the disk is another")
	}
}

// all tells what the console has, the draft left out.
func (d desk) all(exports int) string {
	d.Helper()
	lines := []string{"audit", "shelves", "archives"}
	for i := range exports {
		lines = append(lines, fmt.Sprintf("extents %d", i))
	}
	return d.tells(lines...)
}

// The chapter's export and disk.
var first = []string{`export "a" 8 1 512 8 "first"`, "format 60"}

// Three exports: a tracked one, a plain one, a private one.
var three = []string{
	`export "a" 8 1 512 8 "first"`,
	`export "b" 4 512 4096 0 ""`,
	`export "p" 3 1 512 4 "own"`,
	"format 80",
}

func deskOf(t *testing.T, lines []string) desk {
	t.Helper()
	d := newDesk(t)
	d.ok(lines...)
	return d
}

func quote(s string) string { return octet.Quote(s) }

func itoa(n int) string { return fmt.Sprint(n) }
