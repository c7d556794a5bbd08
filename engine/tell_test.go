package engine_test

import (
	"math"
	"strings"
	"testing"

	"spindle/api"
	"spindle/octet"
)

// holdTell holds Tell against the plain reading.
func holdTell(t *testing.T, what string, s script, r api.Report) string {
	t.Helper()
	got := tellOf(t, s, r)
	wantText(t, what+": Tell", got, plainTell(s, r))
	return got
}

// wantTold asks for what is told of a line that is "start", and of what came of it.
func wantTold(t *testing.T, what string, h heard, wanted ...string) {
	t.Helper()
	got := holdTell(t, what, script{Lines: []line{stepLine(step{Kind: api.SStart})}}, api.Report{Heard: []heard{h}})
	text := "> start\n"
	for _, w := range wanted {
		text += w + "\n"
	}
	wantText(t, what, got, text+"down\nqueue 0\n")
}

// P18.4: each kind of answer, with and without bytes that left, with and without an error.
func TestTellAnswers(t *testing.T) {
	full := answer{Conn: 7, N: 8, Took: api.Took{Kind: api.TookOption, Code: 5}, Code: 9}
	for kind, told := range map[api.StepKind]struct{ word, rest string }{
		api.SOpen:   {"open", " 7"},
		api.SFeed:   {"feed", " 3 8"},
		api.STake:   {"take", " 3 option 5"},
		api.SRun:    {"run", " 3 8 code 9"},
		api.SSend:   {"send", " 3 8"},
		api.SShut:   {"cut", " 3"},
		api.SWrite:  {"write", " 8"},
		api.SFault:  {"fault", ""},
		api.SCrash:  {"crash", ""},
		api.SStart:  {"start", ""},
		api.SClear:  {"clear", " 8"},
		0:           {"step", ""},
		-1:          {"step", ""},
		12:          {"step", ""},
		99:          {"step", ""},
		math.MaxInt: {"step", ""},
		math.MinInt: {"step", ""},
	} {
		x := step{Kind: kind, Conn: 3, N: 4, Data: []byte("abc"), Fault: api.Fault{Kind: 1, Sector: 2, After: 3, Times: 4, Land: true}, Keep: []bool{true}}
		told1 := func(what string, a answer, wanted string) {
			t.Helper()
			wantTold(t, told.word+" "+what, heard{Steps: []step{x}, Answers: []answer{a}}, wanted)
		}
		told1("as it is", full, told.word+told.rest)
		a := full
		a.Out = []byte{0, 255, 16}
		told1("with bytes", a, told.word+told.rest+" out 00ff10")
		a.Err = api.ErrConn
		told1("with an error and bytes", a, told.word+" error 154 out 00ff10")
		a.Out = nil
		told1("with an error", a, told.word+" error 154")
		a.Err = -3
		told1("with an error below 0", a, told.word+" error -3")
	}
	// Numbers below 0, and the greatest.
	for _, x := range []struct {
		kind  api.StepKind
		a     answer
		wants string
	}{
		{api.SOpen, answer{Conn: -7}, "open -7"},
		{api.SFeed, answer{N: math.MinInt}, "feed -1 -9223372036854775808"},
		{api.SSend, answer{N: math.MaxInt}, "send -1 9223372036854775807"},
		{api.SRun, answer{N: -1, Code: math.MaxUint32}, "run -1 -1 code 4294967295"},
		{api.STake, answer{}, "take -1 none"},
		{api.SShut, answer{}, "cut -1"},
		{api.SWrite, answer{N: -1}, "write -1"},
		{api.SWrite, answer{N: 43}, "write 43"},
		{api.SClear, answer{N: 1}, "clear 1"},
		{api.SOpen, answer{Err: math.MaxInt}, "open error 9223372036854775807"},
	} {
		wantTold(t, x.wants, heard{Steps: []step{{Kind: x.kind, Conn: -1}}, Answers: []answer{x.a}}, x.wants)
	}
}

// P18.4: what was taken.
func TestTellTook(t *testing.T) {
	task := api.Task{ID: 3, Req: api.Request{Flags: 1, Type: 2, Cookie: 4, Offset: 5, Length: 6, Data: []byte("no data are told")}}
	great := api.Task{ID: -3, Req: api.Request{Flags: math.MaxUint16, Type: math.MaxUint16, Cookie: math.MaxUint64, Offset: math.MaxUint64, Length: math.MaxUint64}}
	for _, x := range []struct {
		k     api.Took
		wants string
	}{
		{api.Took{}, "none"},
		{api.Took{Kind: api.TookNone, Code: 7, Task: task, Refused: true}, "none"},
		{api.Took{Kind: api.TookFlags, Code: 7, Task: task, Refused: true}, "flags"},
		{api.Took{Kind: api.TookOption, Code: 7, Task: task, Refused: true}, "option 7"},
		{api.Took{Kind: api.TookOption, Code: math.MaxUint32}, "option 4294967295"},
		{api.Took{Kind: api.TookEnd, Code: 7, Task: task, Refused: true}, "end 7"},
		{api.Took{Kind: api.TookEnd}, "end 0"},
		{api.Took{Kind: api.TookRequest, Code: 7, Task: task}, "request 3 2 1 4 5 6"},
		{api.Took{Kind: api.TookRequest, Code: 7, Task: task, Refused: true}, "request 3 2 1 4 5 6 refused"},
		{api.Took{Kind: api.TookRequest, Task: great}, "request -3 65535 65535 18446744073709551615 18446744073709551615 18446744073709551615"},
		{api.Took{Kind: 5, Code: 7, Task: task, Refused: true}, "took"},
		{api.Took{Kind: -1}, "took"},
		{api.Took{Kind: math.MaxInt}, "took"},
	} {
		wantTold(t, x.wants, heard{Steps: []step{{Kind: api.STake, Conn: 1}}, Answers: []answer{{Took: x.k}}}, "take 1 "+x.wants)
		wantTold(t, x.wants+", with bytes", heard{Steps: []step{{Kind: api.STake, Conn: 1}}, Answers: []answer{{Took: x.k, Out: []byte("a")}}}, "take 1 "+x.wants+" out 61")
	}
}

// P18.4: each kind of event, all of its fields set, those too that it does not tell.
func TestTellEvents(t *testing.T) {
	full := event{
		Option: 11, Code: 12, Flags: 13, Text: "te\"xt\n", Cookie: 14, Data: []byte("da\x00ta"),
		Info:   api.Info{Kind: 21, Size: 22, Flags: 23, Text: "in fo", Min: 24, Pref: 25, Max: 26, Data: []byte{255}},
		Meta:   api.Meta{ID: 31, Name: "me\\ta"},
		Status: []api.ContextRuns{{Context: 41, Runs: []api.StatusRun{{Len: 42, Flags: 43}, {Len: 44}}}, {Context: 45}, {Runs: []api.StatusRun{{Flags: 46}}}},
	}
	for kind, wanted := range map[api.EventKind]string{
		api.EvGreeting: "greeting 13",
		api.EvExport:   `export "te\"xt\n"`,
		api.EvInfo:     `info 21 22 23 "in fo" 24 25 26 "\xff"`,
		api.EvMeta:     `meta 31 "me\\ta"`,
		api.EvAck:      "ack 11",
		api.EvRefused:  "refused 11 12",
		api.EvStart:    "start 22 23",
		api.EvDone:     `done 14 12 "da\x00ta" 41:42/43:44/0 45 0:0/46`,
		api.EvBroken:   "broken",
		0:              "event",
		-1:             "event",
		10:             "event",
		math.MaxInt:    "event",
		math.MinInt:    "event",
	} {
		v := full
		v.Kind = kind
		wantTold(t, wanted, heard{Events: []event{v}}, "heard "+wanted)
		wantTold(t, "two of it", heard{Events: []event{v, v}}, "heard "+wanted, "heard "+wanted)
	}
	great := event{
		Option: math.MaxUint32, Code: math.MaxUint32, Flags: math.MaxUint32, Cookie: math.MaxUint64,
		Info:   api.Info{Kind: math.MaxUint16, Size: math.MaxUint64, Flags: math.MaxUint16, Min: math.MaxUint32, Pref: math.MaxUint32, Max: math.MaxUint32},
		Meta:   api.Meta{ID: math.MaxUint32},
		Status: []api.ContextRuns{{Context: math.MaxUint32, Runs: []api.StatusRun{{Len: math.MaxUint64, Flags: math.MaxUint64}}}},
	}
	for kind, wanted := range map[api.EventKind]string{
		api.EvGreeting: "greeting 4294967295",
		api.EvExport:   `export ""`,
		api.EvInfo:     `info 65535 18446744073709551615 65535 "" 4294967295 4294967295 4294967295 ""`,
		api.EvMeta:     `meta 4294967295 ""`,
		api.EvAck:      "ack 4294967295",
		api.EvRefused:  "refused 4294967295 4294967295",
		api.EvStart:    "start 18446744073709551615 65535",
		api.EvDone:     `done 18446744073709551615 4294967295 "" 4294967295:18446744073709551615/18446744073709551615`,
	} {
		v := great
		v.Kind = kind
		wantTold(t, wanted, heard{Events: []event{v}}, "heard "+wanted)
	}
	wantTold(t, "done without data", heard{Events: []event{{Kind: api.EvDone, Cookie: 1}}}, `heard done 1 0 ""`)
}

// P18.4: what a line came to, in its order: the error, the cookie, the answers, the events; as many answers as there are steps, too.
func TestTellOrder(t *testing.T) {
	steps := []step{{Kind: api.SWrite}, {Kind: api.SStart}, {Kind: api.SCrash}}
	answers := []answer{{N: 1}, {}, {Err: 9}}
	events := []event{{Kind: api.EvBroken}, {Kind: api.EvAck, Option: 2}}
	wantTold(t, "nothing", heard{})
	wantTold(t, "an error", heard{Err: 160}, "error 160")
	wantTold(t, "an error below 0", heard{Err: -160}, "error -160")
	wantTold(t, "a cookie", heard{Cookie: 5}, "cookie 5")
	wantTold(t, "the greatest cookie", heard{Cookie: math.MaxUint64}, "cookie 18446744073709551615")
	wantTold(t, "all", heard{Err: 1, Cookie: 2, Steps: steps, Answers: answers, Events: events},
		"error 1", "cookie 2", "write 1", "start", "crash error 9", "heard broken", "heard ack 2")
	wantTold(t, "fewer steps", heard{Steps: steps[:1], Answers: answers, Events: events}, "write 1", "heard broken", "heard ack 2")
	wantTold(t, "fewer answers", heard{Steps: steps, Answers: answers[:2]}, "write 1", "start")
	wantTold(t, "no steps", heard{Answers: answers, Events: events[:1]}, "heard broken")
	wantTold(t, "no answers", heard{Steps: steps})
}

// P18.4: as many lines as the script and the report have.
func TestTellLines(t *testing.T) {
	lines := []line{{Kind: api.LineMove}, {Kind: api.LineMove, Who: 1}, {Kind: api.LineMove, Who: 2}}
	list := []heard{{Err: 1}, {Err: 2}, {Err: 3}}
	all := "> move 0\nerror 1\n> move 1\nerror 2\n> move 2\nerror 3\n"
	two := "> move 0\nerror 1\n> move 1\nerror 2\n"
	end := "down\nqueue 0\n"
	wantText(t, "as many", holdTell(t, "as many", script{Lines: lines}, api.Report{Heard: list}), all+end)
	wantText(t, "fewer lines", holdTell(t, "fewer lines", script{Lines: lines[:2]}, api.Report{Heard: list}), two+end)
	wantText(t, "fewer Heard", holdTell(t, "fewer Heard", script{Lines: lines}, api.Report{Heard: list[:2]}), two+end)
	wantText(t, "no lines", holdTell(t, "no lines", script{}, api.Report{Heard: list}), end)
	wantText(t, "no Heard", holdTell(t, "no Heard", script{Lines: lines}, api.Report{}), end)
	wantText(t, "nothing", holdTell(t, "nothing", script{}, api.Report{}), end)
	wantText(t, "lines that are none ahead of others", holdTell(t, "others", script{Lines: []line{{}, lines[0], {Kind: 9}}}, api.Report{Heard: list}), "> ?\nerror 1\n> move 0\nerror 2\n> ?\nerror 3\n"+end)
}

// P18.4: each line as Print writes it, and those that it does not write.
func TestTellLinesAsPrinted(t *testing.T) {
	for _, x := range samples {
		got := holdTell(t, x.text, script{Lines: []line{x.line}}, api.Report{Heard: make([]heard, 1)})
		wantText(t, x.text, got, "> "+x.text+"\ndown\nqueue 0\n")
	}
	none := func(l line) {
		t.Helper()
		got := holdTell(t, shown(l), script{Lines: []line{l}}, api.Report{Heard: make([]heard, 1)})
		wantText(t, shown(l), got, "> ?\ndown\nqueue 0\n")
	}
	for _, x := range samples {
		l := x.line
		l.Ask.Req.Cookie = 1
		none(l)
		l = x.line
		l.Who = -1
		none(l)
		l = x.line
		l.Step.N = -1
		none(l)
		l = x.line
		l.Ask.Name += "\x00"
		if !strings.Contains(x.form, " QUOTED") || strings.Contains(x.form, "feed") || strings.Contains(x.form, "option") || strings.Contains(x.form, "request") {
			none(l)
		}
		l = x.line
		l.Kind += 4
		none(l)
	}
	none(line{})
	none(stepLine(step{}))
	none(stepLine(step{Kind: 12}))
	none(asks(0, ask{}))
	none(asks(0, ask{Kind: 16}))
	none(asks(math.MaxInt32+1, ask{Kind: api.AskOpen}))
	none(stepLine(step{Kind: api.SFault, Fault: api.Fault{Kind: 4}}))
	none(stepLine(step{Kind: api.SFault, Fault: api.Fault{Kind: 1, Sector: -2}}))
	// What is wrong with a script elsewhere does not matter to a line of it.
	s := script{Sectors: -1, Label: api.Label{Exports: make([]api.Export, 17)}, Config: api.Config{Lines: -1}, Lines: []line{{Kind: api.LineMove}}}
	wantText(t, "a line of a script that can't be", holdTell(t, "a line of a script that can't be", s, api.Report{Heard: make([]heard, 1)}), "> move 0\ndown\nqueue 0\n")
	for len(s.Lines) <= api.MaxScriptLines {
		s.Lines = append(s.Lines, line{Kind: api.LineMove})
	}
	got := tellOf(t, s, api.Report{Heard: make([]heard, len(s.Lines))})
	wantText(t, "more lines than may be", got, strings.Repeat("> move 0\n", api.MaxScriptLines+1)+"down\nqueue 0\n")
}

// P18.4: the end.
func TestTellEnd(t *testing.T) {
	sum := func(b string) string {
		w := octet.NewWriter()
		w.U32(octet.Crc([]byte(b)))
		return octet.Hex(w.Out())
	}
	want(t, "a sum", sum("123456789"), "e3069283")
	for _, x := range []struct {
		r     api.Report
		wants string
	}{
		{api.Report{Up: true}, "up\nqueue 0\n"},
		{api.Report{Queue: 7}, "down\nqueue 7\n"},
		{api.Report{Up: true, Queue: -7}, "up\nqueue -7\n"},
		{api.Report{Queue: math.MinInt}, "down\nqueue -9223372036854775808\n"},
		{api.Report{Up: true, Exports: [][]byte{[]byte("123456789"), nil, []byte("a")}}, "up\nexport 0 9 e3069283\nexport 1 0 00000000\nexport 2 1 c1d04330\nqueue 0\n"},
		{api.Report{Exports: [][]byte{make([]byte, 4096)}}, "down\nexport 0 4096 " + sum(string(make([]byte, 4096))) + "\nqueue 0\n"},
	} {
		wantText(t, x.wants, holdTell(t, x.wants, script{}, x.r), x.wants)
	}
	// A sum that begins with zeros has all of its digits.
	for n := range 2000 {
		if text := itoa(n); octet.Crc([]byte(text)) < 1<<24 {
			holdTell(t, "a small sum", script{}, api.Report{Exports: [][]byte{[]byte(text)}})
			return
		}
	}
	t.Error("no small sum was found")
}
