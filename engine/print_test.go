package engine_test

import (
	"math"
	"reflect"
	"strings"
	"testing"

	"spindle/api"
)

// holdPrint holds Print of a script against the plain reading, and what it writes against Parse (P18.6).
func holdPrint(t *testing.T, what string, s script) (string, api.Errno) {
	t.Helper()
	text, e := printOf(t, s)
	wtext, we := plainPrint(s)
	if e != we {
		t.Errorf("%s: Print(%.300s): error %d, want %d", what, shown(s), e, we)
	}
	wantText(t, what+": Print", text, wtext)
	if e == api.OK && len(text) <= api.MaxScriptText {
		wantSame(t, what+": Parse of what Print writes", wantParsed(t, text), s)
	}
	return text, e
}

func wantPrinted(t *testing.T, what string, s script, wanted string) {
	t.Helper()
	text, e := holdPrint(t, what, s)
	wantErr(t, what+": Print", e, api.OK)
	wantText(t, what+": Print", text, wanted)
}

func wantNotPrinted(t *testing.T, what string, s script) {
	t.Helper()
	_, e := holdPrint(t, what, s)
	wantErr(t, what+": Print", e, api.ErrLine)
}

// P18.2: every kind of line, alone and all together; one blank between words, each line ended.
func TestPrintEveryLine(t *testing.T) {
	for _, x := range samples {
		wantPrinted(t, x.text, behindHead(x.line), head+x.text+"\n")
	}
	for _, x := range leads {
		wantPrinted(t, x.text, x.script, x.ahead+x.text+"\n"+x.behind)
	}
	all := head + everyLine
	wantPrinted(t, "all", wantParsed(t, all), all)
	wantPrinted(t, "all, with other blanks and notes", wantParsed(t, "# note\n"+strings.ReplaceAll(all, " 1", " \t1")+"\n\n#"), all)
}

// P18.2: nothing but zeros is a script.
func TestPrintOfZeros(t *testing.T) {
	wantPrinted(t, "a zero script", script{}, "disk 0\nconfig 0 0 0 0 0\n")
	wantNotPrinted(t, "a zero line", script{Lines: []line{{}}})
	wantNotPrinted(t, "a zero step", script{Lines: []line{{Kind: api.LineStep}}})
	wantNotPrinted(t, "a zero asking", script{Lines: []line{{Kind: api.LineClient}}})
	wantNotPrinted(t, "a zero fault", script{Lines: []line{stepLine(step{Kind: api.SFault})}})
	wantPrinted(t, "a zero export", script{Label: api.Label{Exports: make([]api.Export, 1)}}, "disk 0\nexport \"\" 0 0 0 0 \"\"\nconfig 0 0 0 0 0\n")
	wantPrinted(t, "a zero say", script{Lines: []line{{Kind: api.LineSay}}}, "disk 0\nconfig 0 0 0 0 0\nsay 0 0\n")
}

// A field is one of a line that is no struct, by its way from the line.
type field struct {
	name string
	at   []int
}

func fieldsOf(kind reflect.Type, name string, at []int) []field {
	if kind.Kind() != reflect.Struct {
		return []field{{name, at}}
	}
	var out []field
	for i := range kind.NumField() {
		f := kind.Field(i)
		out = append(out, fieldsOf(f.Type, strings.TrimPrefix(name+"."+f.Name, "."), append(append([]int{}, at...), i))...)
	}
	return out
}

var lineFields = fieldsOf(reflect.TypeOf(line{}), "", nil)

// otherValues gives values for a field that are not zero.
func otherValues(v reflect.Value) []reflect.Value {
	var out []any
	switch v.Interface().(type) {
	case []byte:
		out = []any{[]byte("x"), []byte{0}, []byte("\"\n\xff")}
	case []bool:
		out = []any{[]bool{false}, []bool{true, false}}
	case []uint16:
		out = []any{[]uint16{0}, []uint16{7, 65535}}
	case []string:
		out = []any{[]string{""}, []string{"q", "\x00"}}
	case string:
		out = []any{"x", "\x00", " ", "a b"}
	case bool:
		out = []any{true}
	case uint16:
		out = []any{uint16(1), uint16(2), uint16(65535)}
	case uint32:
		out = []any{uint32(1), uint32(math.MaxUint32)}
	case uint64:
		out = []any{uint64(1), uint64(math.MaxUint64)}
	default:
		for _, n := range []int{1, -1, 2, 3, 5, 15, 16, math.MaxInt32, math.MinInt32, math.MaxInt32 + 1, math.MaxInt, math.MinInt} {
			out = append(out, n)
		}
	}
	var list []reflect.Value
	for _, x := range out {
		list = append(list, reflect.ValueOf(x).Convert(v.Type()))
	}
	return list
}

// fieldsNamed are those that each kind of line names, beside Kind.
var fieldsNamed = map[string]string{
	"feed INT QUOTED":                           "Step.Conn Step.Data",
	"take INT":                                  "Step.Conn",
	"cut INT":                                   "Step.Conn",
	"run INT INT":                               "Step.Conn Step.N",
	"send INT INT":                              "Step.Conn Step.N",
	"clear INT":                                 "Step.N",
	"fault KIND SECTOR INT INT land?":           "Step.Fault.Kind Step.Fault.Sector Step.Fault.After Step.Fault.Times Step.Fault.Land",
	"crash KEEP":                                "Step.Keep",
	"client INT open":                           "Who",
	"client INT list":                           "Who",
	"client INT abort":                          "Who",
	"client INT structured":                     "Who",
	"client INT extended":                       "Who",
	"client INT disc":                           "Who",
	"client INT close":                          "Who",
	"client INT flags U32":                      "Who Ask.Flags",
	"client INT info QUOTED U16*":               "Who Ask.Name Ask.Infos",
	"client INT go QUOTED U16*":                 "Who Ask.Name Ask.Infos",
	"client INT export QUOTED":                  "Who Ask.Name",
	"client INT list-meta QUOTED QUOTED*":       "Who Ask.Name Ask.Queries",
	"client INT set-meta QUOTED QUOTED*":        "Who Ask.Name Ask.Queries",
	"client INT option U32 QUOTED":              "Who Ask.Code Ask.Data",
	"client INT request U16 U16 U64 U64":        "Who Ask.Req.Type Ask.Req.Flags Ask.Req.Offset Ask.Req.Length",
	"client INT request U16 U16 U64 U64 QUOTED": "Who Ask.Req.Type Ask.Req.Flags Ask.Req.Offset Ask.Req.Length Ask.Req.Data",
	"say INT INT":                               "Who N",
	"move INT":                                  "Who",
}

// P18.2: each field that its line's kind does not name set to another value than zero, one by one; and each that it names, to what may be and what may not.
func TestPrintOfEachField(t *testing.T) {
	met := 0
	for _, x := range samples {
		named := " " + fieldsNamed[x.form] + " "
		for _, f := range lineFields {
			l := x.line
			v := reflect.ValueOf(&l).Elem().FieldByIndex(f.at)
			kind := strings.HasSuffix(f.name, "Kind") // what another kind is, the plain reading has to tell
			for _, other := range otherValues(v) {
				v.Set(other)
				what := x.text + ", " + f.name + " " + shown(other.Interface())
				if kind || strings.Contains(named, " "+f.name+" ") {
					holdPrint(t, what, behindHead(l))
					continue
				}
				wantNotPrinted(t, what, behindHead(l))
				met++
			}
		}
	}
	want(t, "many fields were turned", met > 2000, true)
}

// P18.2: each number at its bounds, and beyond them.
func TestPrintOfNumbers(t *testing.T) {
	base := func() script { return wantParsed(t, head+everyLine) }
	type turn struct {
		what string
		of   func(*script) *int
	}
	at := func(text string) int {
		for i, x := range samples {
			if x.text == text {
				return i
			}
		}
		t.Fatal("no sample", text)
		return 0
	}
	turns := []turn{
		{"Sectors", func(s *script) *int { return &s.Sectors }},
		{"an export's Sectors", func(s *script) *int { return &s.Label.Exports[0].Sectors }},
		{"Lines", func(s *script) *int { return &s.Config.Lines }},
		{"Conns", func(s *script) *int { return &s.Config.Conns }},
		{"Flight", func(s *script) *int { return &s.Config.Limits.Flight }},
		{"Conn of feed", func(s *script) *int { return &s.Lines[at(`feed 0 ""`)].Step.Conn }},
		{"Conn of take", func(s *script) *int { return &s.Lines[at("take 4")].Step.Conn }},
		{"Conn of cut", func(s *script) *int { return &s.Lines[at("cut 5")].Step.Conn }},
		{"Conn of run", func(s *script) *int { return &s.Lines[at("run 6 7")].Step.Conn }},
		{"N of run", func(s *script) *int { return &s.Lines[at("run 6 7")].Step.N }},
		{"Conn of send", func(s *script) *int { return &s.Lines[at("send 8 9")].Step.Conn }},
		{"N of send", func(s *script) *int { return &s.Lines[at("send 8 9")].Step.N }},
		{"N of clear", func(s *script) *int { return &s.Lines[at("clear 2")].Step.N }},
		{"After", func(s *script) *int { return &s.Lines[at("fault barrier 0 5 0")].Step.Fault.After }},
		{"Times", func(s *script) *int { return &s.Lines[at("fault barrier 0 5 0")].Step.Fault.Times }},
		{"Who of a client", func(s *script) *int { return &s.Lines[at("client 1 open")].Who }},
		{"Who of say", func(s *script) *int { return &s.Lines[at("say 1 20")].Who }},
		{"N of say", func(s *script) *int { return &s.Lines[at("say 1 20")].N }},
		{"Who of move", func(s *script) *int { return &s.Lines[at("move 2")].Who }},
	}
	for _, x := range turns {
		for n, right := range map[int]bool{0: true, 1: true, math.MaxInt32: true, -1: false, math.MaxInt32 + 1: false, math.MaxUint32 + 1: false, math.MinInt: false, math.MaxInt: false, -math.MaxInt32: false} {
			s := base()
			*x.of(&s) = n
			what := x.what + " " + itoa(n)
			if _, e := holdPrint(t, what, s); (e == api.OK) != right {
				t.Errorf("%s: error %d", what, e)
			}
		}
	}
	sector := at("fault write 43 2 3 land")
	for n, right := range map[int]bool{-1: true, 0: true, math.MaxInt32: true, -2: false, math.MaxInt32 + 1: false, math.MinInt: false} {
		s := base()
		s.Lines[sector].Step.Fault.Sector = n
		if _, e := holdPrint(t, "Sector "+itoa(n), s); (e == api.OK) != right {
			t.Errorf("Sector %d: error %d", n, e)
		}
	}
}

// P18.2: kinds that are none.
func TestPrintOfKinds(t *testing.T) {
	for _, n := range []int{math.MinInt, -1, 0, 5, 12, 16, 17, 99, 256, math.MaxInt} {
		if n < 1 || n > 4 {
			wantNotPrinted(t, "a line of kind "+itoa(n), behindHead(line{Kind: api.LineKind(n)}))
		}
		if n < 1 || n > 11 {
			wantNotPrinted(t, "a step of kind "+itoa(n), behindHead(stepLine(step{Kind: api.StepKind(n)})))
		}
		if n < 1 || n > 15 {
			wantNotPrinted(t, "an asking of kind "+itoa(n), behindHead(asks(0, ask{Kind: api.AskKind(n)})))
		}
		if n < 1 || n > 3 {
			wantNotPrinted(t, "a fault of kind "+itoa(n), behindHead(stepLine(step{Kind: api.SFault, Fault: api.Fault{Kind: n}})))
		}
	}
}

// P18.2: one line that may not be spoils a script, wherever it stands.
func TestPrintOfOneWrongLine(t *testing.T) {
	good := wantParsed(t, head+everyLine)
	for i := range good.Lines {
		s := wantParsed(t, head+everyLine)
		s.Lines[i].Kind = 9
		wantNotPrinted(t, "another kind", s)
		s.Lines[i] = line{Kind: api.LineMove, Who: 1, N: 1}
		wantNotPrinted(t, "a move with N", s)
		s.Lines[i] = line{Kind: api.LineMove, Who: 1}
		wantPrinted(t, "a move", s, strings.Replace(head+everyLine, "\n"+samples[i].text+"\n", "\nmove 1\n", 1))
	}
}

// P18.2: at most 16 exports, at most MaxScriptLines lines, a text of any length.
func TestPrintOfMany(t *testing.T) {
	s := behindHead()
	for len(s.Label.Exports) < 16 {
		s.Label.Exports = append(s.Label.Exports, api.Export{Name: "x", Sectors: len(s.Label.Exports)})
	}
	_, e := holdPrint(t, "16 exports", s)
	wantErr(t, "16 exports", e, api.OK)
	s.Label.Exports = append(s.Label.Exports, api.Export{})
	wantNotPrinted(t, "17 exports", s)

	s = behindHead()
	for range api.MaxScriptLines {
		s.Lines = append(s.Lines, line{Kind: api.LineMove})
	}
	wantPrinted(t, "MaxScriptLines", s, head+strings.Repeat("move 0\n", api.MaxScriptLines))
	s.Lines = append(s.Lines, line{Kind: api.LineMove})
	if _, e := printOf(t, s); e != api.ErrLine {
		t.Errorf("MaxScriptLines and one: error %d", e)
	}
	s.Lines = append(s.Lines, s.Lines...)
	if _, e := printOf(t, s); e != api.ErrLine {
		t.Errorf("twice as many: error %d", e)
	}

	data := strings.Repeat("x", api.MaxScriptText)
	text, e := printOf(t, behindHead(stepLine(step{Kind: api.SFeed, Data: []byte(data)}), line{Kind: api.LineMove, Who: 3}))
	wantErr(t, "a long text", e, api.OK)
	wantText(t, "a long text", text, head+"feed 0 \""+data+"\"\nmove 3\n")
}

// P18.2: names and bytes as by Quote.
func TestPrintOfTexts(t *testing.T) {
	for _, text := range []string{"", " ", "a b", "\"", "\\", "\\\"", "\n", "\t", "\x00", "\xff", "é", "é\xff", "#", "\ufffd", "\u2028", "a\" 8 1 512 0 \"b\nconfig 1 1 1 1 1", strings.Repeat("y", 9000)} {
		s := behindHead(
			stepLine(step{Kind: api.SFeed, Data: []byte(text)}),
			asks(1, ask{Kind: api.AskSetMeta, Name: text, Queries: []string{text, "", text}}),
			asks(2, ask{Kind: api.AskGo, Name: text}),
			asks(3, ask{Kind: api.AskOption, Data: []byte(text)}),
			asks(4, ask{Kind: api.AskRequest, Req: api.Request{Type: 1, Data: []byte(text)}}),
		)
		s.Label.Exports[0].Name, s.Label.Exports[0].Desc = text, text
		q := quote(text)
		wantPrinted(t, text, s, "disk 60\nexport "+q+" 8 1 512 0 "+q+"\nconfig 4 2 1024 64 2\nfeed 0 "+q+"\nclient 1 set-meta "+q+" "+q+" \"\" "+q+
			"\nclient 2 go "+q+"\nclient 3 option 0 "+q+"\nclient 4 request 1 0 0 0 "+q+"\n")
	}
}
