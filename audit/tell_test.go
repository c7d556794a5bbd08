package audit_test

import (
	"math"
	"strings"
	"testing"

	"spindle/api"
)

// P21.2: audits made by hand.
func TestClean(t *testing.T) {
	for _, x := range []struct {
		what  string
		audit api.Audit
		clean bool
	}{
		{"nothing", api.Audit{}, false},
		{"a label", api.Audit{Label: one()}, true},
		{"a label that may not be", api.Audit{Label: labelOf(api.Export{})}, true},
		{"a label, empty lists", api.Audit{Label: several(), Exports: []api.Counted{}, Findings: []api.Finding{}}, true},
		{"a label, and all else is wrong", api.Audit{Sectors: -1, Slot: -1, Seq: 0, Label: one(), Exports: make([]api.Counted, 9)}, true},
		{"a label without exports", api.Audit{Sectors: 60, Seq: 1, Label: api.Label{Exports: []api.Export{}}, Exports: make([]api.Counted, 1)}, false},
		{"a label and a finding", api.Audit{Label: one(), Findings: found(note(0, 2))}, false},
		{"a label and a finding that says nothing", api.Audit{Label: one(), Findings: found(api.Finding{})}, false},
		{"a label and two findings", api.Audit{Label: several(), Findings: found(head(0), same())}, false},
		{"a finding alone", api.Audit{Slot: -1, Findings: found(none())}, false},
	} {
		want(t, x.what, cleanOf(t, x.audit), x.clean)
		last := "clean\n"
		if !x.clean {
			last = "not clean\n"
		}
		want(t, x.what+": Tell's last line", strings.HasSuffix(tellOf(t, x.audit), "\n"+last), true)
	}
}

// P21.6: the first two lines, of numbers below 0 and of great ones.
func TestTellHead(t *testing.T) {
	for _, x := range []struct {
		sectors, slot int
		seq           uint64
		want          string
	}{
		{0, 0, 0, "sectors 0\nlabel 0 0\n"},
		{60, 1, 12, "sectors 60\nlabel 1 12\n"},
		{-1, 2, 1, "sectors -1\nlabel 2 1\n"},
		{65536, -1, 7, "sectors 65536\nlabel none\n"},
		{math.MinInt, math.MinInt, 7, "sectors -9223372036854775808\nlabel none\n"},
		{math.MaxInt, math.MaxInt, math.MaxUint64, "sectors 9223372036854775807\nlabel 9223372036854775807 18446744073709551615\n"},
		{1, 0, 1 << 63, "sectors 1\nlabel 0 9223372036854775808\n"},
	} {
		want(t, "the head", tellOf(t, api.Audit{Sectors: x.sectors, Slot: x.slot, Seq: x.seq}), x.want+"not clean\n")
	}
}

// P21.6: exports, of which only those are told that the label and the counts both have.
func TestTellExports(t *testing.T) {
	const first, second = "export 0 \"a\" 8 laid 1 marked 2\n", "export 1 \"t\" 11 laid -3 marked -4\n"
	counts := []api.Counted{{Laid: 1, Marked: 2}, {Laid: -3, Marked: -4}, {}, {Laid: math.MinInt, Marked: math.MaxInt}, {Laid: 5}}
	for _, x := range []struct {
		exports, counts int
		want            string
	}{{2, 2, first + second}, {4, 2, first + second}, {2, 5, first + second}, {1, 5, first}, {4, 1, first}, {4, 0, ""}, {0, 5, ""}, {0, 0, ""},
		{4, 4, first + second + "export 2 \"second\" 9 laid 0 marked 0\nexport 3 \"p\" 6 laid -9223372036854775808 marked 9223372036854775807\n"}} {
		a := api.Audit{Sectors: 9, Slot: 1, Seq: 2, Label: labelOf(several().Exports[:x.exports]...), Exports: counts[:x.counts]}
		last := "clean\n"
		if x.exports == 0 {
			last = "not clean\n"
		}
		want(t, "exports", tellOf(t, a), "sectors 9\nlabel 1 2\n"+x.want+last)
	}
	// Exports are told whatever the slot is.
	want(t, "no slot", tellOf(t, api.Audit{Slot: -5, Label: one(), Exports: counts[:1]}), "sectors 0\nlabel none\n"+first+"clean\n")
}

// P21.6: names are quoted; an export's number of sectors may be any.
func TestTellNames(t *testing.T) {
	for name, quoted := range map[string]string{
		"":                "\"\"",
		"a b":             "\"a b\"",
		"a\"b\\":          "\"a\\\"b\\\\\"",
		"line\nline":      "\"line\\nline\"",
		"\x00\x01\t\x7f":  "\"\\x00\\x01\\x09\\x7f\"",
		"é€\U0001f600":    "\"é€\U0001f600\"",
		"\xff\xc3(\ufffd": "\"\\xff\\xc3(\ufffd\"",
	} {
		a := api.Audit{Label: labelOf(api.Export{Name: name, Sectors: -12, Tracked: true}), Exports: make([]api.Counted, 1)}
		want(t, "a name", tellOf(t, a), "sectors 0\nlabel 0 0\nexport 0 "+quoted+" -12 laid 0 marked 0\nclean\n")
	}
}

// P21.6: each kind of finding, with both its numbers, and kinds that there are none of; in the order in which they stand.
func TestTellFindings(t *testing.T) {
	var all []api.Finding
	told := ""
	for _, x := range []struct {
		kind  api.FindingKind
		at, n int
		want  string
	}{
		{api.FindMark, 3, 4, "mark 3 4"}, {api.FindNone, 5, 6, "none"}, {api.FindHead, 1, 9, "head 1"}, {api.FindSame, 2, 3, "same"},
		{api.FindBody, 0, 9, "body 0"}, {api.FindSmall, 7, 51, "small 51"}, {api.FindNote, 0, 2, "note 0 2"}, {api.FindMark, -3, -4, "mark -3 -4"},
		{api.FindHead, -1, 0, "head -1"}, {api.FindBody, math.MinInt, 0, "body -9223372036854775808"}, {api.FindSmall, 0, math.MaxInt, "small 9223372036854775807"},
		{api.FindNote, math.MaxInt, math.MinInt, "note 9223372036854775807 -9223372036854775808"}, {api.FindSmall, 1, -2, "small -2"},
		{0, 1, 2, "finding 0"}, {8, 1, 2, "finding 8"}, {-1, 1, 2, "finding -1"}, {math.MaxInt, 1, 2, "finding 9223372036854775807"},
		{math.MinInt, 1, 2, "finding -9223372036854775808"}, {256 + 1, 1, 2, "finding 257"}, {1<<32 + 1, 1, 2, "finding 4294967297"}, {api.FindNone, 0, 0, "none"},
	} {
		f := api.Finding{Kind: x.kind, At: x.at, N: x.n}
		all, told = append(all, f), told+x.want+"\n"
		want(t, "a finding", tellOf(t, api.Audit{Sectors: 1, Slot: -1, Findings: found(f)}), "sectors 1\nlabel none\n"+x.want+"\nnot clean\n")
	}
	a := api.Audit{Sectors: 1, Seq: 1, Label: one(), Exports: make([]api.Counted, 1), Findings: all}
	want(t, "all findings", tellOf(t, a), "sectors 1\nlabel 0 1\nexport 0 \"a\" 8 laid 0 marked 0\n"+told+"not clean\n")
}
