package words_test

import (
	"fmt"
	"strings"
	"testing"

	"spindle/api"
	"spindle/words"
)

func TestExport(t *testing.T) {
	for flags := range 16 {
		wanted := api.Export{Name: "a b", Desc: "\"\n", Sectors: 2147483647, Min: 4294967295, Pref: 7, ReadOnly: flags&1 > 0, Rotational: flags&2 > 0, Private: flags&4 > 0, Tracked: flags&8 > 0}
		line := fmt.Sprintf(`"a b" 2147483647 4294967295 7 %d "\"\n"`, flags)
		r := words.Read(line)
		want(t, line, r.Export(), wanted)
		want(t, "all was taken", r.Done(), true)
		want(t, line, strings.Join(words.OfExport(wanted), " "), line)
	}
	for _, wrong := range []string{
		``,
		`"a" 1 1 1 0`,
		`a 1 1 1 0 ""`,
		`"a" 2147483648 1 1 0 ""`,
		`"a" 1 4294967296 1 0 ""`,
		`"a" 1 1 4294967296 0 ""`,
		`"a" 1 1 1 16 ""`,
		`"a" 1 1 1 0 x`,
	} {
		r := words.Read(wrong)
		r.Export()
		want(t, wrong+": it has failed", r.Done(), false)
	}
}

func TestPage(t *testing.T) {
	var p words.Page
	want(t, "an empty page", p.Text(), "")
	p.Add("a", "b", `"c d"`)
	p.Add()
	p.AddText("x\ny\n")
	p.Add("z")
	want(t, "the page", p.Text(), "a b \"c d\"\n\nx\ny\nz\n")
	want(t, "the page again", p.Text(), "a b \"c d\"\n\nx\ny\nz\n")
}
