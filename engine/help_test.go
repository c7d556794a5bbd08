package engine_test

import (
	"fmt"
	"reflect"
	"strings"
	"testing"

	"spindle/api"
	"spindle/engine"
	"spindle/octet"
)

type (
	script = api.Script
	line   = api.ScriptLine
	step   = api.Step
	ask    = api.Ask
	heard  = api.Heard
	answer = api.Answer
	event  = api.Event
)

// The chapter's disk, export and configuration, and a client that begins the transmission.
const (
	head  = "disk 60\nexport \"a\" 8 1 512 0 \"first\"\nconfig 4 2 1024 64 2\n"
	begin = "client 0 open\nclient 0 flags 3\nclient 0 go \"a\"\nmove 0\n"
)

func want[T comparable](t *testing.T, what string, got, want T) {
	t.Helper()
	if got != want {
		t.Errorf("%s: %v, want %v", what, got, want)
	}
}

func wantErr(t *testing.T, what string, got, want api.Errno) {
	t.Helper()
	if got != want {
		t.Errorf("%s: error %d, want %d", what, got, want)
	}
}

func wantText(t *testing.T, what, got, want string) {
	t.Helper()
	if got == want {
		return
	}
	g, w := strings.Split(got, "\n"), strings.Split(want, "\n")
	for i := range min(len(g), len(w)) {
		if g[i] != w[i] {
			t.Errorf("%s: line %d is %.300q, want %.300q", what, i+1, g[i], w[i])
			return
		}
	}
	t.Errorf("%s: %d lines, want %d", what, len(g), len(w))
}

// wantSame holds two values against each other, an empty list being the same as none.
func wantSame(t *testing.T, what string, got, want any) {
	t.Helper()
	if g, w := shown(got), shown(want); g != w {
		t.Errorf("%s: %.2000s, want %.2000s", what, g, w)
	}
}

// shown lays a value out as a text, field by field, those left out that are zero or empty.
func shown(v any) string { return laid(reflect.ValueOf(v), false) }

// laid does so; with room a list has its spare room in it.
func laid(v reflect.Value, room bool) string {
	switch v.Kind() {
	case reflect.Struct:
		var fields []string
		for i := range v.NumField() {
			switch text := laid(v.Field(i), room); text {
			case "0", "false", `""`, "[]", "{}":
			default:
				fields = append(fields, v.Type().Field(i).Name+":"+text)
			}
		}
		return "{" + strings.Join(fields, " ") + "}"
	case reflect.Slice:
		if room {
			v = v.Slice(0, v.Cap())
		}
		if v.Type().Elem().Kind() == reflect.Uint8 {
			return fmt.Sprintf("%q", v.Bytes())
		}
		var parts []string
		for i := range v.Len() {
			parts = append(parts, laid(v.Index(i), room))
		}
		return "[" + strings.Join(parts, " ") + "]"
	case reflect.String:
		return fmt.Sprintf("%q", v.String())
	}
	return fmt.Sprint(v.Interface())
}

// dice gives numbers that look as if thrown, the same ones in each run.
type dice uint64

func (d *dice) below(n int) int {
	*d = *d*6364136223846793005 + 1442695040888963407
	return int(uint64(*d)>>33) % n
}

func (d *dice) bool() bool { return d.below(2) == 1 }

// pick throws for one of a list.
func pick[T any](d *dice, list ...T) T { return list[d.below(len(list))] }

// wantParsed asks for the script that a text is.
func wantParsed(t *testing.T, text string) script {
	t.Helper()
	s, at, e := parseOf(t, text)
	if e != api.OK {
		t.Fatalf("Parse(%.200q): error %d, line %d", text, e, at)
	}
	return s
}

// wantRefused asks for what Parse has to say of a text that is none.
func wantRefused(t *testing.T, text string, at int, wanted api.Errno) {
	t.Helper()
	_, got, e := parseOf(t, text)
	if e != wanted || got != at {
		t.Errorf("Parse(%.300q): line %d, error %d, want line %d, error %d", text, got, e, at, wanted)
	}
}

// wantLine asks for the line that a text behind a head is.
func wantLine(t *testing.T, text string, wanted line) {
	t.Helper()
	s := wantParsed(t, head+text+"\n")
	wantSame(t, text, s.Lines, []line{wanted})
}

// wantNoLine asks that a text behind a head is no line.
func wantNoLine(t *testing.T, text string) {
	t.Helper()
	wantRefused(t, head+text+"\n", 4, api.ErrLine)
}

// wantPlayed asks for all that Play tells of a text.
func wantPlayed(t *testing.T, what, text, wanted string) {
	t.Helper()
	wantText(t, what, playOf(t, text), wanted)
}

// hears plays lines behind a head, and gives what is told of the last one: the lines behind its own.
func hears(t *testing.T, lines string) string {
	t.Helper()
	told := playOf(t, head+lines)
	if !strings.HasPrefix(told, "> ") {
		t.Fatalf("%q is not played: %s", lines, told)
	}
	told = told[strings.LastIndex("\n"+told, "\n> "):]
	_, told, _ = strings.Cut(told, "\n")
	end := strings.LastIndex("\n"+told, "\nup\n")
	if end < 0 {
		end = strings.LastIndex("\n"+told, "\ndown\n")
	}
	return told[:end]
}

// wantHears asks for what is told of the last one of some lines.
func wantHears(t *testing.T, lines string, wanted ...string) {
	t.Helper()
	text := ""
	for _, w := range wanted {
		text += w + "\n"
	}
	wantText(t, lines, hears(t, lines), text)
}

// ran runs a script that is no text, or one, and asks that it goes well.
func ran(t *testing.T, s script) api.Report {
	t.Helper()
	r, e := runOf(t, s)
	if e != api.OK {
		t.Fatalf("Run: error %d", e)
	}
	want(t, "how many lines have their Heard", len(r.Heard), len(s.Lines))
	return r
}

// behindHead is a script of the chapter's disk, export and configuration, and these lines.
func behindHead(lines ...line) script {
	s, _, _ := engine.Parse(head)
	s.Lines = lines
	return s
}

// wire gives the digits of rows of bytes, one behind the other.
func wire(rows ...[]byte) string {
	out := ""
	for _, b := range rows {
		out += octet.Hex(b)
	}
	return out
}

func itoa(n int) string { return fmt.Sprint(n) }

func quote(s string) string { return octet.Quote(s) }
