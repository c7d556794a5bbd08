package engine_test

import (
	"strings"
	"testing"

	"spindle/api"
)

// A sample is a line of the table: its words, what each of them is, and what it says.
type sample struct {
	text string
	form string // a star stands behind what may come any number of times, a question mark behind what need not
	line line
}

func stepLine(x step) line { return line{Kind: api.LineStep, Step: x} }

func asks(who int, a ask) line { return line{Kind: api.LineClient, Who: who, Ask: a} }

var samples = []sample{
	{"open", "open", stepLine(step{Kind: api.SOpen})},
	{`feed 3 "a b\n\x00\xff"`, "feed INT QUOTED", stepLine(step{Kind: api.SFeed, Conn: 3, Data: []byte("a b\n\x00\xff")})},
	{`feed 0 ""`, "feed INT QUOTED", stepLine(step{Kind: api.SFeed})},
	{"take 4", "take INT", stepLine(step{Kind: api.STake, Conn: 4})},
	{"cut 5", "cut INT", stepLine(step{Kind: api.SShut, Conn: 5})},
	{"run 6 7", "run INT INT", stepLine(step{Kind: api.SRun, Conn: 6, N: 7})},
	{"send 8 9", "send INT INT", stepLine(step{Kind: api.SSend, Conn: 8, N: 9})},
	{"write", "write", stepLine(step{Kind: api.SWrite})},
	{"start", "start", stepLine(step{Kind: api.SStart})},
	{"clear 2", "clear INT", stepLine(step{Kind: api.SClear, N: 2})},
	{"fault read any 0 1", "fault KIND SECTOR INT INT land?", stepLine(step{Kind: api.SFault, Fault: api.Fault{Kind: api.FaultRead, Sector: -1, Times: 1}})},
	{"fault write 43 2 3 land", "fault KIND SECTOR INT INT land?", stepLine(step{Kind: api.SFault, Fault: api.Fault{Kind: api.FaultWrite, Sector: 43, After: 2, Times: 3, Land: true}})},
	{"fault barrier 0 5 0", "fault KIND SECTOR INT INT land?", stepLine(step{Kind: api.SFault, Fault: api.Fault{Kind: api.FaultBarrier, After: 5}})},
	{"crash -", "crash KEEP", stepLine(step{Kind: api.SCrash})},
	{"crash 0", "crash KEEP", stepLine(step{Kind: api.SCrash, Keep: []bool{false}})},
	{"crash 0110", "crash KEEP", stepLine(step{Kind: api.SCrash, Keep: []bool{false, true, true, false}})},
	{"client 1 open", "client INT open", asks(1, ask{Kind: api.AskOpen})},
	{"client 2 list", "client INT list", asks(2, ask{Kind: api.AskList})},
	{"client 3 abort", "client INT abort", asks(3, ask{Kind: api.AskAbort})},
	{"client 4 structured", "client INT structured", asks(4, ask{Kind: api.AskStructured})},
	{"client 5 extended", "client INT extended", asks(5, ask{Kind: api.AskExtended})},
	{"client 6 disc", "client INT disc", asks(6, ask{Kind: api.AskDisc})},
	{"client 7 close", "client INT close", asks(7, ask{Kind: api.AskClose})},
	{"client 8 flags 3", "client INT flags U32", asks(8, ask{Kind: api.AskFlags, Flags: 3})},
	{`client 9 info "a"`, "client INT info QUOTED U16*", asks(9, ask{Kind: api.AskInfo, Name: "a"})},
	{`client 9 info "a" 3 0 65535`, "client INT info QUOTED U16*", asks(9, ask{Kind: api.AskInfo, Name: "a", Infos: []uint16{3, 0, 65535}})},
	{`client 10 go ""`, "client INT go QUOTED U16*", asks(10, ask{Kind: api.AskGo})},
	{`client 10 go "a" 1`, "client INT go QUOTED U16*", asks(10, ask{Kind: api.AskGo, Name: "a", Infos: []uint16{1}})},
	{`client 11 export "é"`, "client INT export QUOTED", asks(11, ask{Kind: api.AskExport, Name: "é"})},
	{`client 12 list-meta "a"`, "client INT list-meta QUOTED QUOTED*", asks(12, ask{Kind: api.AskListMeta, Name: "a"})},
	{`client 12 list-meta "a" "base:" ""`, "client INT list-meta QUOTED QUOTED*", asks(12, ask{Kind: api.AskListMeta, Name: "a", Queries: []string{"base:", ""}})},
	{`client 13 set-meta "b"`, "client INT set-meta QUOTED QUOTED*", asks(13, ask{Kind: api.AskSetMeta, Name: "b"})},
	{`client 13 set-meta "b" "base:allocation"`, "client INT set-meta QUOTED QUOTED*", asks(13, ask{Kind: api.AskSetMeta, Name: "b", Queries: []string{"base:allocation"}})},
	{`client 14 option 9 "xy"`, "client INT option U32 QUOTED", asks(14, ask{Kind: api.AskOption, Code: 9, Data: []byte("xy")})},
	{"client 15 request 0 4 512 1024", "client INT request U16 U16 U64 U64", asks(15, ask{Kind: api.AskRequest, Req: api.Request{Flags: 4, Offset: 512, Length: 1024}})},
	{`client 15 request 1 1 510 2 "xy"`, "client INT request U16 U16 U64 U64 QUOTED", asks(15, ask{Kind: api.AskRequest, Req: api.Request{Type: 1, Flags: 1, Offset: 510, Length: 2, Data: []byte("xy")}})},
	{`client 15 request 1 0 0 0 ""`, "client INT request U16 U16 U64 U64 QUOTED", asks(15, ask{Kind: api.AskRequest, Req: api.Request{Type: 1}})},
	{"client 99 request 65535 65535 18446744073709551615 18446744073709551615", "client INT request U16 U16 U64 U64", asks(99, ask{Kind: api.AskRequest, Req: api.Request{Type: 65535, Flags: 65535, Offset: 1<<64 - 1, Length: 1<<64 - 1}})},
	{"say 1 20", "say INT INT", line{Kind: api.LineSay, Who: 1, N: 20}},
	{"move 2", "move INT", line{Kind: api.LineMove, Who: 2}},
}

// everyLine is the text of all samples.
var everyLine = func() string {
	out := ""
	for _, x := range samples {
		out += x.text + "\n"
	}
	return out
}()

// A lead is a line ahead of all others, which stands at its own place.
type lead struct {
	text   string
	form   string
	ahead  string
	behind string
	script script
}

var leads = []lead{
	{"disk 60", "disk INT", "", "config 1 2 3 4 5\n", script{Sectors: 60, Config: api.Config{Lines: 1, Conns: 2, Limits: api.Limits{Payload: 3, Option: 4, Flight: 5}}}},
	{`export "a" 8 1 512 5 "first one"`, "export QUOTED INT U32 U32 FLAGS QUOTED", "disk 60\n", "config 0 0 0 0 0\n",
		script{Sectors: 60, Label: api.Label{Exports: []api.Export{{Name: "a", Sectors: 8, Min: 1, Pref: 512, ReadOnly: true, Private: true, Desc: "first one"}}}}},
	{`export "" 0 0 0 10 ""`, "export QUOTED INT U32 U32 FLAGS QUOTED", "disk 0\n", "config 0 0 0 0 0\n",
		script{Label: api.Label{Exports: []api.Export{{Rotational: true, Tracked: true}}}}},
	{"config 4 3 1024 64 2", "config INT INT U32 U32 INT", "disk 60\n", "open\n",
		script{Sectors: 60, Config: api.Config{Lines: 4, Conns: 3, Limits: api.Limits{Payload: 1024, Option: 64, Flight: 2}}, Lines: []line{{Kind: api.LineStep, Step: step{Kind: api.SOpen}}}}},
}

// everySample gives all lines, each with what must stand around it.
func everySample() []lead {
	out := leads
	for _, x := range samples {
		s := behindHead(x.line)
		out = append(out, lead{x.text, x.form, head, "", s})
	}
	return out
}

// P18.1: every line of the table.
func TestEveryLine(t *testing.T) {
	for _, x := range samples {
		wantLine(t, x.text, x.line)
	}
	for _, x := range leads {
		wantSame(t, x.text, wantParsed(t, x.ahead+x.text+"\n"+x.behind), x.script)
	}
	for form := range plainTable {
		bare := strings.TrimSuffix(strings.TrimSuffix(form, " QUOTED?"), " land?")
		met := false
		for _, x := range everySample() {
			met = met || strings.HasPrefix(x.form, bare)
		}
		want(t, "a sample of "+form, met, true)
	}
}

// P18.1: each of an export's flags by itself.
func TestFlagsOfExports(t *testing.T) {
	for flags := range 16 {
		text := "disk 1\nexport \"x\" 1 2 3 " + itoa(flags) + " \"d\"\nconfig 1 1 1 1 1\n"
		s := wantParsed(t, text)
		wantSame(t, "flags "+itoa(flags), s.Label.Exports, []api.Export{{
			Name: "x", Desc: "d", Sectors: 1, Min: 2, Pref: 3,
			ReadOnly: flags&1 != 0, Rotational: flags&2 != 0, Private: flags&4 != 0, Tracked: flags&8 != 0,
		}})
		back, e := printOf(t, s)
		wantErr(t, "Print", e, api.OK)
		wantText(t, "Print", back, text)
	}
}

// holdText holds Parse of a text against the plain reading.
func holdText(t *testing.T, text string) (script, int, api.Errno) {
	t.Helper()
	s, at, e := parseOf(t, text)
	ws, wat, we := plainParse(text)
	if at != wat || e != we || shown(s) != shown(ws) {
		t.Errorf("Parse(%.300q): %.300s, line %d, error %d, want %.300s, line %d, error %d", text, shown(s), at, e, shown(ws), wat, we)
	}
	return s, at, e
}

// wantWords asks whether words make a line, in the place of a sample's.
func wantWords(t *testing.T, x lead, words []string, right bool) {
	t.Helper()
	text := x.ahead + strings.Join(words, " ") + "\n" + x.behind
	if !right {
		wantRefused(t, text, 1+strings.Count(x.ahead, "\n"), api.ErrLine)
	}
	if _, _, e := holdText(t, text); e != api.OK && right {
		t.Errorf("%q: error %d", strings.Join(words, " "), e)
	}
}

// cutWords gives the words of a sample, as they stand.
func cutWords(text string) []string { return plainCut.FindAllString(text, -1) }

// formAt tells what the word of that place is.
func formAt(form string, i int) string {
	forms := strings.Fields(form)
	return forms[min(i, len(forms)-1)]
}

// P18.1: with a word too few.
func TestWordsTooFew(t *testing.T) {
	for _, x := range everySample() {
		words := cutWords(x.text)
		for n := 1; n < len(words); n++ {
			kind := formAt(x.form, n)
			wantWords(t, x, words[:n], strings.HasSuffix(kind, "*") || strings.HasSuffix(kind, "?"))
		}
		for drop := range len(words) - 1 {
			holdText(t, x.ahead+strings.Join(append(append([]string{}, words[:drop]...), words[drop+1:]...), " ")+"\n"+x.behind)
		}
	}
}

// P18.1: with a word too many, of each kind, at the end and elsewhere.
func TestWordsTooMany(t *testing.T) {
	for _, x := range everySample() {
		words := cutWords(x.text)
		for _, more := range []string{"0", "7", `""`, `"x"`, "land", "any", "-", "#", "# a note"} {
			kind := formAt(x.form, len(words))
			number := more == "0" || more == "7"
			right := kind == "U16*" && number || kind == "QUOTED*" && more[0] == '"' || kind == "land?" && more == "land" && len(words) == 5
			wantWords(t, x, append(append([]string{}, words...), more), right)
			for at := 1; at < len(words); at++ {
				holdText(t, x.ahead+strings.Join(append(append(append([]string{}, words[:at]...), more), words[at:]...), " ")+"\n"+x.behind)
			}
		}
	}
}

// What each kind of word may be, and what it may not.
func rightAndWrong(kind string) (right, wrong []string) {
	number := []string{"-1", "+1", "00", "01", "007", "1.0", "0x1", "1e3", "1_0", "one", "-", "١", "1\x00", "\x001", "0\r", `"0"`, `"1"`, `""`, "99999999999999999999", "18446744073709551616", "36893488147419103232"}
	quoted := []string{"a", "0", `"a`, `"`, `"\"`, `"a\"`, `"a"b`, `"a""b"`, `"a"0`, `"\x41"`, `"\x0a"`, `"\q"`, `"\x0G"`, `"\xFF"`, `"\x0"`, `"\`, "'a'", `a"b"`, "\"a\tb\"", "\"\x01\"", "\"\xff\"", "\"\x7f\"", `"\\\"`, "\"a\"\r"}
	switch strings.TrimRight(kind, "*") {
	case "INT":
		return []string{"0", "1", "9", "10", "2147483646", "2147483647"}, append(number, "2147483648", "4294967296", "9223372036854775808", "18446744073709551615", "any")
	case "U16":
		return []string{"0", "65534", "65535"}, append(number, "65536", "131072", "4294967296")
	case "U32":
		return []string{"0", "2147483648", "4294967295"}, append(number, "4294967296", "8589934592", "18446744073709551615")
	case "U64":
		return []string{"0", "4294967296", "9223372036854775808", "18446744073709551615"}, number
	case "FLAGS":
		return []string{"0", "8", "15"}, append(number, "16", "31", "256", "4294967296")
	case "QUOTED":
		return []string{`""`, `"a"`, `" "`, `"# no note"`, `"\""`, `"\\"`, `"\\\""`, `"a \" b \\"`, `"\n\x00\x09\x0d\xff\x7f"`, `"é\xffé"`, "\"\ufffd\u2028\"", `"` + strings.Repeat("x", 5000) + `"`}, quoted
	case "KIND":
		return []string{"read", "write", "barrier"}, []string{"Read", "reads", "flush", "any", "1", "2", "?", "-", `"read"`, "wri te"}
	case "SECTOR":
		return []string{"any", "0", "65536", "2147483647"}, append(number, "2147483648", "Any", "any0", "all", `"any"`)
	case "KEEP":
		return []string{"-", "0", "1", "01", "10", strings.Repeat("10", 3000)}, []string{"--", "-0", "0-", "-1", "2", "012", "01a", "0,1", "any", `"0"`, `"-"`, `""`, "0 1", "- -", "o"}
	case "land?":
		return []string{"land"}, []string{"lands", "Land", "lan", "0", "1", "any", `"land"`, `""`, "land land"}
	}
	word := kind
	return []string{word}, []string{strings.ToUpper(word), strings.ToUpper(word[:1]) + word[1:], word[:len(word)-1], word + "s", word + "\r", word + "\x00", `"` + word + `"`, "x" + word, word + `""`, `""`, "?", "step", "7", "\u00a0" + word}
}

// P18.1: each word of each line turned into what it may be, at its bounds, and into what it may not, one beyond them, and of the other kind.
func TestEachWord(t *testing.T) {
	for _, x := range everySample() {
		words := cutWords(x.text)
		for i := range words {
			right, wrong := rightAndWrong(formAt(x.form, i))
			turned := func(w string) []string {
				return append(append(append([]string{}, words[:i]...), w), words[i+1:]...)
			}
			typeOf := strings.HasPrefix(x.form, "client INT request") && i == 3
			for _, w := range right {
				wantWords(t, x, turned(w), !typeOf || (w == "1") == (len(words) == 8))
			}
			for _, w := range wrong {
				wantWords(t, x, turned(w), false)
			}
		}
	}
}

// P18.1: Data stand just at Type 1.
func TestDataOfRequests(t *testing.T) {
	for _, kind := range []int{0, 1, 2, 3, 4, 5, 6, 7, 8, 257, 65535} {
		text := "client 0 request " + itoa(kind) + " 0 0 512"
		for _, data := range []string{"", ` ""`, ` "x"`} {
			if (kind == 1) == (data != "") {
				wantLine(t, text+data, asks(0, ask{Kind: api.AskRequest, Req: api.Request{Type: uint16(kind), Length: 512, Data: []byte(strings.Trim(data, ` "`))}}))
			} else {
				wantNoLine(t, text+data)
			}
		}
	}
}

// P18.1: words that are none of the table's first ones, and first ones of one place in the other.
func TestOtherWords(t *testing.T) {
	for _, w := range []string{"step", "?", "opens", "shut", "client", "client 0", "client open 0", "client 0 0", "client 0 write", "client 0 move", "client 0 meta", "client 0 read", "list", "list 0", "flags 3", `go "a"`, `info "a"`, "request 0 0 0 0", "abort", "disc", "close", "client 0 client 0 open", "client 0 take", "client 0 feed 0 \"\"", "client 0 disk 60", "open open", "open 0", "write 0", "start 0", "export", "disk", "config", "0", `""`, `"open"`, `"#"`, "say", "say 0", "move", "crash", "fault", "fault read", "client 0 fault read any 0 1", "\xa0", "\u00a0", "\r", "\v", "\f", "\x00"} {
		wantNoLine(t, w)
	}
}

// P18.1: blanks are the bytes 32 and 9, as many as one likes, ahead, behind and between.
func TestBlanks(t *testing.T) {
	for _, x := range everySample() {
		words := cutWords(x.text)
		for _, blank := range []string{" ", "\t", "  ", "\t ", " \t \t\t  "} {
			for _, text := range []string{
				strings.Join(words, blank),
				blank + x.text,
				x.text + blank,
				blank + strings.Join(words, blank) + blank,
			} {
				wantSame(t, text, wantParsed(t, x.ahead+text+"\n"+x.behind), x.script)
			}
		}
		for _, other := range []string{"\r", "\v", "\f", "\x00", "\u00a0", "\u2003", ""} {
			if len(words) > 1 {
				wantRefused(t, x.ahead+strings.Join(words, other)+"\n"+x.behind, 1+strings.Count(x.ahead, "\n"), api.ErrLine)
			}
		}
	}
}

// P18.1: the words of quoted ones are those of Quote, whatever bytes.
func TestQuotedBytes(t *testing.T) {
	var all []byte
	for b := range 256 {
		text := quote(string([]byte{byte(b)}))
		wantLine(t, "feed 1 "+text, stepLine(step{Kind: api.SFeed, Conn: 1, Data: []byte{byte(b)}}))
		all = append(all, byte(b))
		holdText(t, head+"feed 1 \""+string([]byte{byte(b)})+"\"\n")
		holdText(t, head+"feed 1 \"\\"+string([]byte{byte(b)})+"\"\n")
		holdText(t, head+"feed 1 \"a\\"+string([]byte{byte(b)})+"\n")
	}
	wantLine(t, "feed 1 "+quote(string(all)), stepLine(step{Kind: api.SFeed, Conn: 1, Data: all}))
	wantLine(t, `client 1 option 7 "\\" `, asks(1, ask{Kind: api.AskOption, Code: 7, Data: []byte{'\\'}}))
	wantNoLine(t, `client 1 option 7 "\\"" `)
	wantNoLine(t, `client 1 option 7 "\\\"`)
	wantLine(t, `client 1 list-meta "a b" "c\"" "\"d"`, asks(1, ask{Kind: api.AskListMeta, Name: "a b", Queries: []string{`c"`, `"d`}}))
}
