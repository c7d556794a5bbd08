package console_test

import (
	"strings"
	"testing"

	"spindle/api"
)

// A form is a line that may be: its words, each with its kind, and what it answers at a desk that stands ready.
type form struct {
	line  string
	kinds string // of each word: a letter of the list below
	more  bool   // any number of words like the last one may follow
}

// The kinds of words: w stands for itself; i is an INT, f an INT up to 15, 4 a U32, 8 a U64; q is quoted; o is on or off.
var forms = []form{
	{`export "a" 8 1 512 8 "first"`, "wqi44fq", false},
	{"forget", "w", false},
	{"format 60", "wi", false},
	{"audit", "w", false},
	{"repair", "w", false},
	{"repair force", "ww", false},
	{`rename 0 "b"`, "wiq", false},
	{`describe 0 "b"`, "wiq", false},
	{"readonly 0 on", "wio", false},
	{"readonly 0 off", "wio", false},
	{"read 0 0 1", "wi8i", false},
	{`write 0 0 "x"`, "wi8q", false},
	{"zero 0 0 1", "wi88", false},
	{"trim 0 0 1", "wi88", false},
	{"extents 0", "wi", false},
	{"clear 0", "wi", false},
	{`shelve "y"`, "wq", false},
	{`use "x"`, "wq", false},
	{`drop "x"`, "wq", false},
	{"shelves", "w", false},
	{`differ "x" 0`, "wqi", false},
	{"backup 3 1 0", "w88i", false},
	{"archives", "w", false},
	{"join 1 2", "w88", false},
	{"restore 0 1 2", "wi88", true},
}

// ready is a desk at which all forms go well.
func ready(t *testing.T) desk {
	t.Helper()
	d := deskOf(t, first)
	d.ok(`shelve "x"`)
	d.says("backup 1 0 0", "archive 1 0 4096 1")
	d.ok("clear 0", `write 0 0 "z"`)
	d.says("backup 2 1 0", "archive 2 1 4096 1")
	return d
}

func wordsOf(line string) []string { return strings.Split(line, " ") }

func with(words []string, i int, word string) string {
	out := append([]string{}, words...)
	out[i] = word
	return strings.Join(out, " ")
}

// P26.2: every line of the table is none with a word too few or too many, with words in other places, and is the same one with other blanks.
func TestForms(t *testing.T) {
	for _, f := range forms {
		answer := ready(t).do(f.line)
		if strings.HasPrefix(answer, "error") || answer == "" {
			t.Errorf("%s: %q", f.line, answer)
		}
		w := wordsOf(f.line)
		want(t, f.line, len(w), len(f.kinds))
		blanks := []string{" " + f.line, "\t" + f.line + "\t ", strings.ReplaceAll(f.line, " ", "\t"), strings.ReplaceAll(f.line, " ", " \t  ")}
		for _, line := range blanks {
			want(t, quote(line), ready(t).do(line), answer)
		}
		d := ready(t)
		for i := range w {
			if len(w) == 1 || i == 1 && f.line == "repair force" || i > 0 && f.more {
				continue // what is left is another line that may be, or says nothing
			}
			d.refuses(api.ErrCommand, strings.Join(append(append([]string{}, w[:i]...), w[i+1:]...), " "))
		}
		for _, more := range []string{"x", `""`, `"x"`, "-", "force on"} {
			d.refuses(api.ErrCommand, f.line+" "+more)
		}
		if !f.more {
			d.refuses(api.ErrCommand, f.line+" 0")
		}
		d.refuses(api.ErrCommand, strings.ToUpper(f.line), f.line+"\r", f.line+"\n", f.line+"\v", f.line+" #", "- "+f.line, `"`+w[0]+`"`+f.line[len(w[0]):])
	}
	d := ready(t)
	d.refuses(api.ErrCommand, "restore", "restore 0", "restore 0 1 x", `restore 0 "1"`, "restore 0 1 2 18446744073709551616", "restore 0 -")
	d.ok("restore 0 1", "restore 0 1 2")
}

// P26.2: each word of each line, at its bounds and beyond, bare and quoted.
func TestWords(t *testing.T) {
	most := map[byte]string{'i': "2147483647", 'f': "15", '4': "4294967295", '8': "18446744073709551615"}
	more := map[byte]string{'i': "2147483648", 'f': "16", '4': "4294967296", '8': "18446744073709551616"}
	for _, f := range forms {
		w := wordsOf(f.line)
		d := ready(t)
		for i := range w {
			k := f.kinds[i]
			switch k {
			case 'w':
				d.refuses(api.ErrCommand, with(w, i, quote(w[i])), with(w, i, w[i]+"x"), with(w, i, "x"+w[i]), with(w, i, strings.ToUpper(w[i])))
			case 'o':
				d.refuses(api.ErrCommand, with(w, i, quote(w[i])), with(w, i, "On"), with(w, i, "1"), with(w, i, "onoff"), with(w, i, "o"))
			case 'q':
				d.refuses(api.ErrCommand, with(w, i, "x"), with(w, i, "0"), with(w, i, `"`), with(w, i, `"x`), with(w, i, `x"`), with(w, i, `"\x41"`), with(w, i, `"a"b`), with(w, i, `"a""b"`), with(w, i, "\"\t\""), with(w, i, "\"\xff\""), with(w, i, "\"a\nb\""))
			default:
				for _, wrong := range []string{more[k], "-1", "+1", "01", "00", "1.0", "0x1", "1_0", "x", "-", quote("0"), quote(w[i]), "99999999999999999999999", "١"} {
					d.refuses(api.ErrCommand, with(w, i, wrong))
				}
				for _, right := range []string{"0", most[k]} {
					if answer := ready(t).do(with(w, i, right)); answer == "error 260\n" || answer == "" {
						t.Errorf("%s: %q", with(w, i, right), answer)
					}
				}
			}
		}
	}
}

// P26.2: lines that say nothing answer nothing and change nothing; lines that are none of the table.
func TestSilent(t *testing.T) {
	silent := []string{"", " ", "\t", " \t \t", "#", "# a note", "#\xff\"", "#audit", "# \"", "## x", "#\n"}
	other := []string{"nonsense", "Audit", "help", "\r", "\n", "\x00", "\u00a0", "\xff", "\"", `""`, `"audit"`, `"#"`, "audit\x00", "a#", "disk 60", "quit", "audit audit", "é", "\xff\"x\"", "repair force force", "repair  \"force\"", "list", "-", "0", `\`}
	for _, ready := range []func(*testing.T) desk{newDesk, ready} {
		d := ready(t)
		exports := 0
		if len(d.image()) > 0 {
			exports = 1
		}
		d.same(exports, func() {
			for _, line := range silent {
				want(t, quote(line), d.do(line), "")
			}
			d.refuses(api.ErrCommand, other...)
		})
	}
}

// P26.2: a # behind blanks is taken as the first word's, as in layer 18.
func TestSilentBehindBlanks(t *testing.T) {
	d := ready(t)
	for _, line := range []string{" #", "\t# a note", "  \t#\""} {
		want(t, quote(line), d.do(line), "")
	}
}

// P26.2: which lines need a disk.
func TestNoDisk(t *testing.T) {
	for _, f := range forms {
		d := newDesk(t)
		switch wordsOf(f.line)[0] {
		case "export", "forget", "shelves":
			d.says(f.line, "ok")
		case "format":
			d.refuses(api.ErrLabel, f.line)
		default: // of use and drop: no such shelf
			d.refuses(api.ErrNone, f.line)
		}
		want(t, f.line+": bytes of a disk", len(d.image()), 0)
	}
}

// P26.2: use, drop and shelves do not need one.
func TestNoDiskButShelves(t *testing.T) {
	d := ready(t)
	image := d.image()
	d.c.Lay(nil)
	d.says("shelves", `shelf "x" 60`)
	d.refuses(api.ErrNone, `use "y"`, `drop "y"`, `shelve "x"`, `differ "x" 0`, "archives", "join 1 2", "restore 0 1", "audit")
	d.ok(`use "x"`)
	d.says("archives", "archive 1 0 4096 1", "archive 2 1 4096 1")
	want(t, "the disk is the one of the shelf", len(d.image()), len(image))
	d.c.Lay(nil)
	d.ok(`drop "x"`, "shelves")
	d.refuses(api.ErrNone, `use "x"`)
}

// P26.2: the line's form comes ahead of the disk.
func TestNoDiskForm(t *testing.T) {
	d := newDesk(t)
	for _, f := range forms {
		d.refuses(api.ErrCommand, f.line+" x", strings.ToUpper(f.line))
	}
	d.refuses(api.ErrCommand, "use", "drop", "shelves x", "use x", "read 0 0 2147483648")
}
