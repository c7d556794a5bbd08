package console_test

import (
	"bytes"
	"fmt"
	"strings"
	"testing"

	"spindle/api"
	"spindle/console"
	"spindle/server"
)

// played does lines one by one on a console of its own, and lays them out as Play does.
func played(lines []string) string {
	c := console.New()
	out := ""
	for _, line := range lines {
		out += "> " + line + "\n" + c.Do(line)
	}
	return out
}

// P26.4: lines as in layer 18, each echoed as it stands, with what Do answers.
func TestPlay(t *testing.T) {
	for text, lines := range map[string][]string{
		"":                     nil,
		"\n":                   {""},
		"\n\n":                 {"", ""},
		"audit":                {"audit"},
		"audit\n":              {"audit"},
		"audit\n\n":            {"audit", ""},
		" \t\n#\n  # x\n":      {" \t", "#", "  # x"},
		"audit\r\nforget":      {"audit\r", "forget"},
		"\xff\x00\n\"\n":       {"\xff\x00", `"`},
		"  shelves \t\n> x":    {"  shelves \t", "> x"},
		"forget\nformat 60\n#": {"forget", "format 60", "#"},
	} {
		want(t, quote(text), console.Play(text), played(lines))
	}
	want(t, "nothing", console.Play(""), "")
	want(t, "an empty line", console.Play("\n"), "> \n")
	want(t, "a line that is no text", console.Play("\xff\n\x00"), "> \xff\nerror 260\n> \x00\nerror 260\n")
}

// P26.4, R5: a text is played on a console of its own, again and again.
func TestPlayAgain(t *testing.T) {
	head := strings.Join(first, "\n") + "\n"
	wanted := played(append(append([]string{}, first...), `shelve "x"`, "backup 1 0 0", `write 0 0 "z"`))
	for range 3 {
		want(t, "Play", console.Play(head+"shelve \"x\"\nbackup 1 0 0\nwrite 0 0 \"z\"\n"), wanted)
		want(t, "Play of what another text left", console.Play("use \"x\"\nread 0 0 1\nformat 60\nshelves"), "> use \"x\"\nerror 62\n> read 0 0 1\nerror 62\n> format 60\nerror 60\n> shelves\nok\n")
	}
}

// P26.4: long texts, long lines.
func TestPlayLong(t *testing.T) {
	lines := append([]string{}, first...)
	for i := range 1500 {
		lines = append(lines, fmt.Sprintf("write 0 %d %s", i%4000, quote(string(rune('a'+i%26)))), "# "+strings.Repeat("x", i%50))
	}
	lines = append(lines, "read 0 0 4096", "restore 0"+strings.Repeat(" 1", 5000), "repair"+strings.Repeat(" force", 5000), strings.Repeat("\" ", 5000), strings.Repeat(" ", 100000), "write 0 0 "+quote(strings.Repeat("x", 100000)))
	want(t, "Play", console.Play(strings.Join(lines, "\n")), played(lines))
}

// P26.3: none without a disk; behind each line what the disk is, in new memory.
func TestImage(t *testing.T) {
	d := newDesk(t)
	want(t, "none", len(d.image()), 0)
	d.ok(first[0])
	want(t, "none yet", len(d.image()), 0)
	d.ok("format 60")
	wanted, _ := server.Format(60, api.Label{Exports: []api.Export{{Name: "a", Desc: "first", Sectors: 8, Min: 1, Pref: 512, Tracked: true}}})
	want(t, "format", bytes.Equal(d.image(), wanted), true)
	d.ok(`write 0 510 "xy"`)
	image := d.image()
	want(t, "a byte that was written", image[44*512+510], 'x')
	want(t, "the notes, the marks", fmt.Sprint(image[42*512], image[43*512]), "128 128")
	d.ok(`shelve "x"`, "zero 0 0 4096")
	for i := range image {
		image[i] = 0xee // nobody's
	}
	want(t, "the marks", d.image()[43*512], 0xff)
	d.ok(`use "x"`)
	d.says("read 0 509 3", `bytes "\x00xy"`)
	for i, b := range d.image() {
		if b == 0xee {
			t.Fatalf("byte %d is the caller's", i)
		}
	}
}

// R5, R9: two consoles know nothing of one another.
func TestTwo(t *testing.T) {
	lines := strings.Split(strings.TrimSuffix(example, "\n"), "\n")
	one, two := newDesk(t), newDesk(t)
	var left string
	for i, line := range lines {
		want(t, line, one.do(line), answers[i])
		if i > 0 {
			want(t, lines[i-1], two.do(lines[i-1]), answers[i-1])
		}
		one.do(`shelve "x"`)
		left += two.do("shelves")
	}
	want(t, "shelves of the other one", left, strings.Repeat("ok\n", len(lines)))
	want(t, "the last line", two.do(lines[len(lines)-1]), answers[len(lines)-1])
	want(t, "both disks", bytes.Equal(one.image(), two.image()), true)
}
