package console_test

import (
	"strings"
	"testing"

	"spindle/api"
	"spindle/console"
)

const example = `export "a" 8 1 512 8 "first"
format 60
write 0 510 "xy"
read 0 508 6
backup 1 0 0
clear 0
write 0 0 "z"
backup 2 1 0
zero 0 0 4096
restore 0 1 2
read 0 0 1
rename 0 "b"
audit
`

// What the lines of the example answer, one behind the other.
var answers = []string{
	"ok\n",
	"ok\n",
	"ok\n",
	"bytes \"\\x00\\x00xy\\x00\\x00\"\n",
	"archive 1 0 4096 2\n",
	"ok\n",
	"ok\n",
	"archive 2 1 4096 1\n",
	"ok\n",
	"ok\n",
	"bytes \"z\"\n",
	"ok\n",
	"sectors 60\nlabel 1 2\nexport 0 \"b\" 8 laid 8 marked 8\nclean\n",
}

// P26.2: the chapter's example, line by line.
func TestExample(t *testing.T) {
	d := newDesk(t)
	lines := strings.Split(strings.TrimSuffix(example, "\n"), "\n")
	want(t, "lines", len(lines), len(answers))
	for i, line := range lines {
		want(t, line, d.do(line), answers[i])
	}
}

// P26.4: the same as a text.
func TestExamplePlayed(t *testing.T) {
	wanted := ""
	for i, line := range strings.Split(strings.TrimSuffix(example, "\n"), "\n") {
		wanted += "> " + line + "\n" + answers[i]
	}
	want(t, "Play", console.Play(example), wanted)
	want(t, "Play without a last end", console.Play(strings.TrimSuffix(example, "\n")), wanted)
	want(t, "Play again", console.Play(example), wanted)
}

// P26.2: the chapter's other examples.
func TestExampleErrors(t *testing.T) {
	newDesk(t).refuses(api.ErrNone, "read 0 0 1")
	d := deskOf(t, first)
	d.refuses(api.ErrBounds, "read 0 4096 1")
	d.refuses(api.ErrArg, "read 1 0 1")
	d.refuses(api.ErrCommand, "read 0 0")
	d.refuses(api.ErrLabel, `rename 0 ""`)
	d.says("backup 1 0 0", "archive 1 0 4096 1")
	d.ok("clear 0", `write 0 0 "z"`)
	d.says("backup 2 1 0", "archive 2 1 4096 1")
	d.refuses(api.ErrLink, "restore 0 2")
}

// P26.1: New, and that each is one of its own.
func TestNew(t *testing.T) {
	d := newDesk(t)
	want(t, "a disk", len(d.image()), 0)
	want(t, "shelves", d.do("shelves"), "ok\n")
	want(t, "a draft", d.do("format 60"), "error 60\n")
	d.ok(first...)
	want(t, "archives", d.do("archives"), "ok\n")
	other := newDesk(t)
	want(t, "a disk of another one", len(other.image()), 0)
	other.refuses(api.ErrLabel, "format 60")
}

// R1: consoles that New did not give.
func TestNotMade(t *testing.T) {
	var none *console.Console
	var zero console.Console
	for what, c := range map[string]*console.Console{"nil": none, "zero": &zero, "new": new(console.Console)} {
		for _, line := range append(strings.Split(example, "\n"), "shelves", "nonsense", "", "# a", `use "x"`, `drop "x"`, "forget", `"`) {
			want(t, what+": "+line, c.Do(line), "")
			want(t, what+": bytes of its disk", len(c.Image()), 0)
		}
	}
}
