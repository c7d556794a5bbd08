package octet_test

import (
	"math/rand"
	"strings"
	"testing"
	"unicode/utf8"

	"spindle/api"
	"spindle/octet"
)

// wantQuoted asks that s is quoted as want, and comes back of it.
func wantQuoted(t *testing.T, s, want string) {
	t.Helper()
	if got := octet.Quote(s); got != want {
		t.Errorf("Quote(%q): %s, want %s", s, got, want)
	}
	if got, e := octet.Unquote(want); got != s || e != api.OK {
		t.Errorf("Unquote(%s): %q, error %d, want %q", want, got, e, s)
	}
}

func wantUnquoteRefused(t *testing.T, s string) {
	t.Helper()
	if got, e := octet.Unquote(s); got != "" || e != api.ErrQuote {
		t.Errorf("Unquote(%q): %q, error %d", s, got, e)
	}
}

// Example 6 of the chapter.
func TestExampleQuote(t *testing.T) {
	wantQuoted(t, "a\n\x01é\xff", `"a\n\x01é\xff"`)
	wantUnquoteRefused(t, `"\x41"`)
	wantUnquoteRefused(t, "")
	wantQuoted(t, "", `""`)
}

// P1.6: each kind of rune and byte.
func TestQuote(t *testing.T) {
	cases := map[string]string{
		"a":                          `"a"`,
		" ~":                         `" ~"`,
		"'":                          `"'"`,
		`"`:                          `"\""`,
		`\`:                          `"\\"`,
		`\n`:                         `"\\n"`,
		`\\`:                         `"\\\\"`,
		`\"`:                         `"\\\""`,
		`\x41`:                       `"\\x41"`,
		"\n":                         `"\n"`,
		"\n\n":                       `"\n\n"`,
		"\x00":                       `"\x00"`,
		"\t\r":                       `"\x09\x0d"`,
		"\x1f ":                      `"\x1f "`,
		"\x7f":                       `"\x7f"`,
		"\x80":                       `"\x80"`,
		"\u0080\u009f\u00a0":         "\"\u0080\u009f\u00a0\"",
		"\u2028\ufeff\U0010ffff":     "\"\u2028\ufeff\U0010ffff\"",
		"\ufffd":                     "\"\ufffd\"",
		"\ufffd\xff\ufffd":           "\"\ufffd\\xff\ufffd\"",
		"\xef\xbf":                   `"\xef\xbf"`,
		"\xef\xbfa":                  `"\xef\xbfa"`,
		"\xef\xbf\ufffd":             "\"\\xef\\xbf\ufffd\"",
		"\xc3é":                      `"\xc3é"`,
		"\xc3":                       `"\xc3"`,
		"\xe2\x82a":                  `"\xe2\x82a"`,
		"\xed\xa0\x80":               `"\xed\xa0\x80"`,
		"\xc0\x80":                   `"\xc0\x80"`,
		"\xf4\x90\x80\x80":           `"\xf4\x90\x80\x80"`,
		"\xf0\x9f\x92":               `"\xf0\x9f\x92"`,
		"say \"é\"\n\\ \x02\xfe end": `"say \"é\"\n\\ \x02\xfe end"`,
	}
	for s, want := range cases {
		wantQuoted(t, s, want)
	}
}

// P1.6: every byte that stands alone.
func TestQuoteOfEveryByte(t *testing.T) {
	const digits = "0123456789abcdef"
	for v := range 256 {
		want := `\x` + string(digits[v/16]) + string(digits[v%16])
		switch {
		case v == '\n':
			want = `\n`
		case v == '"' || v == '\\':
			want = `\` + string(rune(v))
		case v >= 0x20 && v < 0x7f:
			want = string(rune(v))
		}
		wantQuoted(t, string([]byte{byte(v)}), `"`+want+`"`)
	}
}

// P1.6: every rune from U+0080 on is as it is.
func TestQuoteOfEveryRune(t *testing.T) {
	for r := rune(0x80); r <= utf8.MaxRune; r++ {
		if r == 0xd800 {
			r = 0xe000
		}
		s := string(r)
		if octet.Quote(s) != `"`+s+`"` {
			t.Fatalf("Quote of U+%04X: %s", r, octet.Quote(s))
		}
	}
}

// P1.6: what is not just what Quote gives.
func TestUnquoteRefuses(t *testing.T) {
	for _, s := range []string{
		`"`, `a`, `\`, `a"`, `"a`, `"a"b`, `b"a"`, `"a"b"`, `"a" `, ` "a"`, `"""`, `""""`, `'a'`, "`a`", "\"a\"\n", `a""`, `""a`,
		`"\"`, `"\\\"`, `\"a\"`, `"a\`,
		`"\a"`, `"\t"`, `"\r"`, `"\0"`, `"\N"`, `"\'"`, `"\u00e9"`, `"\U0001f4be"`, `"\101"`, `"\é"`, "\"\\\n\"",
		`"\x"`, `"\x1"`, `"\x1g"`, `"\xg1"`, `"\X01"`, `"\x 1"`, `"\x0`, `"\x0"1`, `"\x\x01"`,
		`"\xFF"`, `"\xfF"`, `"\xFf"`, `"\x0A"`,
		`"\x0a"`, `"\x20"`, `"\x22"`, `"\x5c"`, `"\x41"`, `"\x7e"`,
		"\"\n\"", "\"\x00\"", "\"\x01\"", "\"\t\"", "\"\x7f\"", "\"\xff\"", "\"\x80\"", "\"a\xc3\"", "\"\xed\xa0\x80\"", "\"\xe2\x82\"",
		`"\xc3\xa9"`, `"\xef\xbf\xbd"`, `"\xe2\x82\xac"`, "\"\xc3\\xa9\"", "\"\\xc3\xa9\"", `"\xf0\x9f\x92\xbe"`, `"a\xc3\xa9b"`, `"\xff\xc3\xa9"`,
	} {
		wantUnquoteRefused(t, s)
	}
}

// strings256 calls do with every string of two bytes.
func strings256(do func(s string)) {
	for a := range 256 {
		for b := range 256 {
			do(string([]byte{byte(a), byte(b)}))
		}
	}
}

// P1.7: Unquote(Quote(s)) is s for every s.
func TestQuoteComesBack(t *testing.T) {
	back := func(s string) {
		if got, e := octet.Unquote(octet.Quote(s)); got != s || e != api.OK {
			t.Fatalf("Unquote(Quote(%q)): %q, error %d", s, got, e)
		}
	}
	strings256(back)
	rnd := rand.New(rand.NewSource(5))
	kinds := append(append(texts(), notTexts()...), `\`, `"`, "n", "x", "0", "ff", "\n", "\xef\xbf\xbd", "\xef", "\xbf", "\xbd")
	for range 20000 {
		var s strings.Builder
		for range rnd.Intn(8) {
			s.WriteString(kinds[rnd.Intn(len(kinds))])
		}
		back(s.String())
	}
}

// P1.6: no two strings are quoted alike.
func TestQuoteTellsStringsApart(t *testing.T) {
	from := map[string]string{}
	strings256(func(s string) {
		q := octet.Quote(s)
		if other, ok := from[q]; ok {
			t.Fatalf("Quote of %q and of %q: %s", s, other, q)
		}
		from[q] = s
	})
}

// P1.7: Quote(Unquote(t)) is t wherever Unquote takes t.
func TestUnquoteTakesOnlyWhatQuoteGives(t *testing.T) {
	const kinds = "\"\\nx0aF\n\x01\xff\xc3\xa9"
	taken := 0
	var look func(s string, more int)
	look = func(s string, more int) {
		for _, q := range []string{s, `"` + s, s + `"`, `"` + s + `"`} {
			got, e := octet.Unquote(q)
			switch {
			case e == api.OK && octet.Quote(got) != q:
				t.Fatalf("Unquote takes %q as %q", q, got)
			case e != api.OK && (e != api.ErrQuote || got != ""):
				t.Fatalf("Unquote(%q): %q, error %d", q, got, e)
			case e == api.OK:
				taken++
			}
		}
		for i := 0; more > 0 && i < len(kinds); i++ {
			look(s+kinds[i:i+1], more-1)
		}
	}
	look("", 4)
	if taken < 1000 {
		t.Error("only so many were taken:", taken)
	}
}

// Quote and Unquote of long strings end, and are right.
func TestQuoteOfLongStrings(t *testing.T) {
	s := strings.Repeat("a\n\x01é\xff\"\\", 1<<14)
	wantQuoted(t, s, `"`+strings.Repeat(`a\n\x01é\xff\"\\`, 1<<14)+`"`)
}
