package words_test

import (
	"slices"
	"strings"
	"testing"

	"spindle/words"
)

func want[T comparable](t *testing.T, what string, got, want T) {
	t.Helper()
	if got != want {
		t.Errorf("%s: %v, want %v", what, got, want)
	}
}

func TestLines(t *testing.T) {
	for text, lines := range map[string][]string{
		"":           nil,
		"\n":         {""},
		"a":          {"a"},
		"a\n":        {"a"},
		"a\n\n":      {"a", ""},
		"\na":        {"", "a"},
		"a\r\nb c\n": {"a\r", "b c"},
		" ":          {" "},
	} {
		if got := words.Lines(text); !slices.Equal(got, lines) {
			t.Errorf("Lines(%q): %q, want %q", text, got, lines)
		}
	}
}

func TestSilent(t *testing.T) {
	for _, line := range []string{"", " ", "\t", " \t ", "#", "# a", "  #a", "\t#\"", "##"} {
		want(t, line, words.Silent(line), true)
	}
	for _, line := range []string{"a", " a", "a #", `"#"`, `""`, "\r", "\u00a0", "\v"} {
		want(t, line, words.Silent(line), false)
	}
}

// told takes all words of a line: bare ones behind a b, quoted ones behind a q; a ! if it fails.
func told(line string) string {
	r := words.Read(line)
	var out []string
	for r.More() {
		again := *r
		if bare := again.Bare(); bare != "" {
			*r = again
			out = append(out, "b"+bare)
		} else {
			out = append(out, "q"+r.Quoted())
		}
	}
	if !r.Done() {
		out = append(out, "!")
	}
	return strings.Join(out, "|")
}

func TestCut(t *testing.T) {
	for line, wanted := range map[string]string{
		"":                         "",
		" \t":                      "",
		"a":                        "ba",
		" a\tb  c ":                "ba|bb|bc",
		`"a"`:                      "qa",
		`x "a b" y`:                "bx|qa b|by",
		`x"a" b`:                   `bx"a"|bb`,
		`"\"" "\\" "\\\""`:         `q"|q\|q\"`,
		`""`:                       "q",
		`"" "" -`:                  "q|q|b-",
		`"a"b`:                     "!",
		`"a""b"`:                   "!",
		`"a`:                       "!",
		`"`:                        "!",
		`"\"`:                      "!",
		`"\`:                       "!",
		`"\x41"`:                   "!",
		"\"a\tb\"":                 "!",
		`a "b`:                     "!",
		`a "b" "c`:                 "!",
		`a "b" c"`:                 `ba|qb|bc"`,
		"\"\\n\\x00\\xff\"\t'a'":   "q\n\x00\xff|b'a'",
		"a\u00a0b\rc":              "ba\u00a0b\rc",
		"é \"é\" \xff":             "bé|qé|b\xff",
		`"#" #`:                    "q#|b#",
		strings.Repeat("a ", 5000): strings.TrimSuffix(strings.Repeat("ba|", 5000), "|"),
	} {
		want(t, line, told(line), wanted)
	}
}

func TestNumbers(t *testing.T) {
	line := "7 2147483647 65535 4294967295 18446744073709551615 0"
	r := words.Read(line)
	want(t, "Number", r.Number(7), 7)
	want(t, "Int", r.Int(), 2147483647)
	want(t, "U16", r.U16(), 65535)
	want(t, "U32", r.U32(), 4294967295)
	want(t, "U64", r.U64(), 18446744073709551615)
	want(t, "a word is left", r.More() && !r.Done(), true)
	want(t, "Int", r.Int(), 0)
	want(t, "all was taken", r.Done() && !r.More(), true)
	for wrong, take := range map[string]func(*words.Reader){
		"8":                    func(r *words.Reader) { want(t, "Number", r.Number(7), 0) },
		"2147483648":           func(r *words.Reader) { want(t, "Int", r.Int(), 0) },
		"65536":                func(r *words.Reader) { want(t, "U16", r.U16(), 0) },
		"4294967296":           func(r *words.Reader) { want(t, "U32", r.U32(), 0) },
		"18446744073709551616": func(r *words.Reader) { want(t, "U64", r.U64(), 0) },
		"":                     func(r *words.Reader) { want(t, "Int of no word", r.Int(), 0) },
		"01":                   func(r *words.Reader) { want(t, "Int", r.Int(), 0) },
		"-1":                   func(r *words.Reader) { want(t, "Int", r.Int(), 0) },
		`"1"`:                  func(r *words.Reader) { want(t, "Int of a quoted word", r.Int(), 0) },
	} {
		r := words.Read(wrong)
		take(r)
		want(t, wrong+": it has failed", r.Done(), false)
	}
}

func TestFailed(t *testing.T) {
	r := words.Read(`1 "a" b 2`)
	want(t, "a quoted word that is a number", r.Quoted(), "")
	want(t, "nothing is left", r.More(), false)
	want(t, "nothing is given any more", r.Int(), 0)
	want(t, "nor a word", r.Bare()+r.Quoted()+string(r.Bytes()), "")
	want(t, "nor matched", r.Match("b"), false)
	want(t, "it has failed", r.Done(), false)

	r = words.Read("a")
	r.Fail()
	want(t, "it was made to fail", r.Done() || r.More(), false)
	r = words.Read("")
	want(t, "no word is asked for", r.Done(), true)
	want(t, "one is", r.Bare(), "")
	want(t, "it has failed", r.Done(), false)
}

func TestMatch(t *testing.T) {
	r := words.Read(`any "any" land`)
	want(t, "another word", r.Match("land"), false)
	want(t, "this word", r.Match("any"), true)
	want(t, "a quoted one", r.Match("any"), false)
	want(t, "Bytes", string(r.Bytes()), "any")
	want(t, "the last one", r.Match("land"), true)
	want(t, "none", r.Match("land"), false)
	want(t, "that none is there is no failure", r.Done(), true)
}
