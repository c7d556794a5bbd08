package audit

import (
	"strconv"
	"strings"

	"spindle/api"
	"spindle/octet"
)

// A phrase is how a kind of finding is told: by a word, and those of its numbers that say something.
type phrase struct {
	kind  api.FindingKind
	word  string
	at, n bool
}

var phrases = [...]phrase{
	{kind: api.FindNone, word: "none"},
	{kind: api.FindHead, word: "head", at: true},
	{kind: api.FindSame, word: "same"},
	{kind: api.FindBody, word: "body", at: true},
	{kind: api.FindSmall, word: "small", n: true},
	{kind: api.FindNote, word: "note", at: true, n: true},
	{kind: api.FindMark, word: "mark", at: true, n: true},
}

// Tell writes an audit (P21.6).
func Tell(a api.Audit) string {
	var out strings.Builder
	line := func(words ...string) { out.WriteString(strings.Join(words, " ") + "\n") }
	line("sectors", strconv.Itoa(a.Sectors))
	if a.Slot < 0 {
		line("label none")
	} else {
		line("label", strconv.Itoa(a.Slot), octet.Decimal(a.Seq))
	}
	for n := range min(len(a.Label.Exports), len(a.Exports)) {
		x, counted := a.Label.Exports[n], a.Exports[n]
		line("export", strconv.Itoa(n), octet.Quote(x.Name), strconv.Itoa(x.Sectors), "laid", strconv.Itoa(counted.Laid), "marked", strconv.Itoa(counted.Marked))
	}
	for _, f := range a.Findings {
		line(wordsOf(f)...)
	}
	if Clean(a) {
		line("clean")
	} else {
		line("not clean")
	}
	return out.String()
}

func wordsOf(f api.Finding) []string {
	for _, p := range phrases {
		if p.kind == f.Kind {
			return p.of(f)
		}
	}
	return []string{"finding", strconv.Itoa(int(f.Kind))}
}

func (p phrase) of(f api.Finding) []string {
	out := []string{p.word}
	if p.at {
		out = append(out, strconv.Itoa(f.At))
	}
	if p.n {
		out = append(out, strconv.Itoa(f.N))
	}
	return out
}
