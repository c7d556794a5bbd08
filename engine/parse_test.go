package engine_test

import (
	"strings"
	"testing"

	"spindle/api"
	"spindle/engine"
)

const (
	diskLine   = "disk 60\n"
	exportLine = "export \"a\" 8 1 512 0 \"\"\n"
	configLine = "config 4 2 1024 64 2\n"
)

// P18.1: which lines may stand where.
func TestOrderOfLines(t *testing.T) {
	const d, x, c, o = diskLine, exportLine, configLine, "open\n"
	for _, right := range []string{d + c, d + x + c, d + x + x + c, d + strings.Repeat(x, 16) + c, d + c + o, d + c + o + o, d + x + c + o} {
		s := wantParsed(t, right)
		want(t, "exports of "+right, len(s.Label.Exports), strings.Count(right, "export"))
		want(t, "lines of "+right, len(s.Lines), strings.Count(right, "open"))
	}
	for _, w := range []struct {
		what string
		text string
		at   int
	}{
		{"a second disk", d + d + x + c, 2},
		{"a second disk, behind an export", d + x + d + c, 3},
		{"a second disk, behind config", d + x + c + d, 4},
		{"a second disk, behind a step", d + x + c + o + d, 5},
		{"an export ahead of the disk", x + d + c, 1},
		{"an export behind config", d + c + x, 3},
		{"an export behind a step", d + c + o + x, 4},
		{"a seventeenth export", d + strings.Repeat(x, 17) + c, 18},
		{"a config ahead of the disk", c + d + x, 1},
		{"a second config", d + x + c + c, 4},
		{"a second config, behind a step", d + x + c + o + c, 5},
		{"a step ahead of the disk", o + d + x + c, 1},
		{"a step ahead of an export", d + o + x + c, 2},
		{"a step ahead of config", d + x + o + c, 3},
		{"an asking ahead of config", d + x + "client 0 open\n" + c, 3},
		{"a say ahead of config", d + x + "say 0 1\n" + c, 3},
		{"a move ahead of config", d + x + "move 0\n" + c, 3},
		{"no text", "", 1},
		{"a line without words", "\n", 2},
		{"three lines that say nothing", "\n# disk 60\n \t\n", 4},
		{"nothing but the disk", d, 2},
		{"no config", d + x, 3},
		{"no config, the last line without its end", d + "export \"a\" 8 1 512 0 \"\"", 3},
		{"no config, lines that say nothing behind", d + x + "\n#\n", 5},
		{"no disk", c, 1},
		{"no disk, no config, an export", x, 1},
		{"two wrong lines", d + "nothing\n" + c + "nothing\n", 2},
		{"a wrong line ahead of one that may not stand there", d + "nothing\n" + d, 2},
		{"one that may not stand there ahead of a wrong one", d + d + "nothing\n", 2},
		{"a wrong line, and no config", d + x + "nothing\n", 3},
	} {
		_, at, e := holdText(t, w.text)
		if at != w.at || e != api.ErrLine {
			t.Errorf("%s: line %d, error %d, want line %d, error %d", w.what, at, e, w.at, api.ErrLine)
		}
	}
}

// P18.1: lines that say nothing are counted, and are no lines of the script.
func TestSilentLines(t *testing.T) {
	for _, silent := range []string{"", " ", "\t", " \t ", "#", "# a note", "#open", "  # \"no quoted text", "\t#\"", "#\"\\", "#\x00\xff", "##", "# disk 60"} {
		text := silent + "\n" + strings.ReplaceAll(head+"open\nmove 0\n", "\n", "\n"+silent+"\n") + silent
		wantSame(t, silent, wantParsed(t, text), wantParsed(t, head+"open\nmove 0\n"))
		wantRefused(t, silent+"\n"+silent+"\n"+head+silent+"\n"+"nothing\n", 7, api.ErrLine)
	}
	for _, loud := range []string{`"#"`, `"# a note"`, `""`, "\r", "\v#", "\x00", ".#", "x # y", `"`} {
		wantNoLine(t, loud)
	}
	wantNoLine(t, "open # a note")
	wantNoLine(t, "move 0 #")
}

// P18.1: bytes behind the last end of a line are a line, if there are any.
func TestLastLine(t *testing.T) {
	s := wantParsed(t, head+"open\nmove 3")
	wantSame(t, "without an end", s.Lines, []line{samples[0].line, {Kind: api.LineMove, Who: 3}})
	wantSame(t, "with one", wantParsed(t, head+"open\nmove 3\n"), s)
	wantSame(t, "with more", wantParsed(t, head+"open\nmove 3\n\n\n"), s)
	wantSame(t, "the head alone, without an end", wantParsed(t, strings.TrimSuffix(head, "\n")), wantParsed(t, head))
	wantRefused(t, head+"\nnothing", 5, api.ErrLine)
	wantRefused(t, head+"open\rmove 3\n", 4, api.ErrLine)
	wantRefused(t, strings.ReplaceAll(head, "\n", "\r\n"), 1, api.ErrLine)
	wantRefused(t, "disk 60\n\n\n", 4, api.ErrLine)
	wantRefused(t, "disk 60\n\n\n ", 5, api.ErrLine)
	wantRefused(t, "disk 60", 2, api.ErrLine)
}

// sized gives a text of so many bytes, the last ones of a note.
func sized(text string, size int) string {
	return text + "#" + strings.Repeat("x", size-len(text)-1)
}

// P18.1: MaxScriptText bytes, and one more, which is told ahead of all else.
func TestTextSize(t *testing.T) {
	for _, text := range []string{head, head + "open\n", "\n" + head} {
		wantSame(t, "at the bound", wantParsed(t, sized(text, api.MaxScriptText)), wantParsed(t, text))
		wantRefused(t, sized(text, api.MaxScriptText+1), 0, api.ErrScript)
	}
	wantRefused(t, sized(head+"nothing\n", api.MaxScriptText), 4, api.ErrLine)
	wantRefused(t, sized(head+"nothing\n", api.MaxScriptText+1), 0, api.ErrScript)
	wantRefused(t, sized("", api.MaxScriptText), 2, api.ErrLine)
	wantRefused(t, sized("", api.MaxScriptText+1), 0, api.ErrScript)
	wantRefused(t, strings.Repeat("\n", api.MaxScriptText), api.MaxScriptText+1, api.ErrLine)
	wantRefused(t, strings.Repeat("\n", api.MaxScriptText+1), 0, api.ErrScript)
	wantRefused(t, strings.Repeat("x", 3*api.MaxScriptText), 0, api.ErrScript)
	long := `feed 0 "` + strings.Repeat("x", api.MaxScriptText-len(head)-len(`feed 0 ""`)-1) + "\"\n"
	want(t, "a long line", len(wantParsed(t, head+long).Lines[0].Step.Data), len(long)-len("feed 0 \"\"\n"))
	wantRefused(t, head+long+" ", 0, api.ErrScript)
}

// P18.1: MaxScriptLines lines behind config, and one more, with a wrong line ahead of that one, at it and behind it.
func TestMostLines(t *testing.T) {
	const most = api.MaxScriptLines
	lines := func(n int) string { return strings.Repeat("open\n", n) }
	want(t, "at the bound", len(wantParsed(t, head+lines(most)).Lines), most)
	want(t, "at the bound, and lines that say nothing", len(wantParsed(t, "#\n"+head+"\n\n"+lines(most)+"#\n\n").Lines), most)
	exports := diskLine + strings.Repeat(exportLine, 16) + configLine
	want(t, "exports are none of them", len(wantParsed(t, exports+lines(most)).Lines), most)
	for _, w := range []struct {
		what string
		text string
		at   int
		e    api.Errno
	}{
		{"one more", head + lines(most+1), 3 + most + 1, api.ErrScript},
		{"two more", head + lines(most+2), 3 + most + 1, api.ErrScript},
		{"many more", head + lines(3*most), 3 + most + 1, api.ErrScript},
		{"one more, with exports", exports + lines(most+1), 18 + most + 1, api.ErrScript},
		{"one more, with lines that say nothing", "#\n" + head + "\n" + lines(most) + "\n# note\nmove 0\n#\nopen\n", 4 + 1 + most + 3, api.ErrScript},
		{"one more, without its end", head + lines(most) + "open", 3 + most + 1, api.ErrScript},
		{"a wrong line ahead of it", head + "nothing\n" + lines(most), 4, api.ErrLine},
		{"a wrong line in the midst", head + lines(most/2) + "disk 1\n" + lines(most), 4 + most/2, api.ErrLine},
		{"a wrong line just ahead of it", head + lines(most-1) + "nothing\n" + lines(2), 3 + most, api.ErrLine},
		{"a wrong line in its place", head + lines(most) + "nothing\n", 3 + most + 1, api.ErrLine},
		{"a wrong line in its place, and others", head + lines(most) + "nothing\nopen\n", 3 + most + 1, api.ErrLine},
		{"a wrong line behind it", head + lines(most+1) + "nothing\n", 3 + most + 2, api.ErrLine},
		{"a wrong line far behind it", head + lines(2*most) + "\n\nconfig 1 1 1 1 1\n" + lines(2), 3 + 2*most + 3, api.ErrLine},
	} {
		_, at, e := parseOf(t, w.text)
		if at != w.at || e != w.e {
			t.Errorf("%s: line %d, error %d, want line %d, error %d", w.what, at, e, w.at, w.e)
		}
		if _, wat, we := plainParse(w.text); wat != w.at || we != w.e {
			t.Errorf("%s: the plain reading: line %d, error %d", w.what, wat, we)
		}
	}
}

// P18.1: whether the numbers may be is not looked at.
func TestNumbersAreNotLookedAt(t *testing.T) {
	s := wantParsed(t, "disk 2147483647\nexport \"\" 2147483647 0 4294967295 15 \"\\x00\"\nexport \"\" 0 0 0 0 \"\"\nconfig 0 2147483647 0 4294967295 2147483647\nrun 2147483647 2147483647\nclient 16 open\nclient 2147483647 list\nfault barrier 5 0 0 land\n")
	want(t, "Sectors", s.Sectors, 2147483647)
	want(t, "Min, Pref of the first export", s.Label.Exports[0].Pref, 4294967295)
	want(t, "Config", s.Config, api.Config{Conns: 2147483647, Limits: api.Limits{Option: 4294967295, Flight: 2147483647}})
	want(t, "Who", s.Lines[2].Who, 2147483647)
	want(t, "a fault of a sector at a barrier", s.Lines[3].Step.Fault, api.Fault{Kind: api.FaultBarrier, Sector: 5, Land: true})
}

// R1: any bytes are parsed without a panic.
func FuzzParse(f *testing.F) {
	f.Add(head + everyLine)
	f.Add("disk 60\nexport \"")
	f.Add("\"\\")
	f.Fuzz(func(t *testing.T, text string) {
		s, at, e := engine.Parse(text)
		ws, wat, we := plainParse(text)
		if at != wat || e != we || shown(s) != shown(ws) {
			t.Errorf("Parse(%q): %s, line %d, error %d, want %s, line %d, error %d", text, shown(s), at, e, shown(ws), wat, we)
		}
	})
}
