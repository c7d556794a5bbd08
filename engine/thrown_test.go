package engine_test

import (
	"slices"
	"strings"
	"testing"

	"spindle/api"
	"spindle/engine"
)

// throwText throws for a name, a query or bytes.
func throwText(d *dice) string {
	return pick(d, "a", "b", "p", "", "base:allocation", "spindle:dirty", "spindle:unsaved", "base:", "x y", "\"\\\n\x00\xff", "é", strings.Repeat("z", d.below(600)))
}

// throwNumber throws for a number, small ones mostly.
func throwNumber(d *dice) int {
	return pick(d, 0, 0, 1, 1, 2, 3, d.below(70), d.below(5000), d.below(1<<31-1), 1<<31-1)
}

// throwRequest throws for a request, most of which are right.
func throwRequest(d *dice) api.Request {
	q := api.Request{Type: uint16(pick(d, 0, 0, 1, 1, 1, 3, 4, 5, 6, 7, d.below(20))), Flags: uint16(pick(d, 0, 0, 0, 0, 0, 0, 1, 1, 2, 4, 8, 16, d.below(64)))}
	q.Offset, q.Length = uint64(d.below(pick(d, 1000, 1000, 4200))), uint64(d.below(pick(d, 100, 700)))
	switch d.below(12) {
	case 0:
		q.Offset = 1<<64 - 1 - q.Offset
	case 1:
		q.Length = uint64(throwNumber(d))
	case 2, 3:
		q.Offset, q.Length = q.Offset&^511, 512*uint64(d.below(3))
	}
	if q.Type == 1 {
		q.Flags &= 1
		q.Data = []byte(strings.Repeat(string(rune('A'+d.below(26))), int(q.Length%1200)))
	}
	return q
}

func throwAsk(d *dice) ask {
	a := ask{Kind: pick(d, api.AskRequest, api.AskRequest, api.AskKind(1+d.below(15)))}
	switch a.Kind {
	case api.AskClose, api.AskAbort, api.AskDisc:
		if d.below(3) > 0 {
			return throwAsk(d)
		}
	case api.AskFlags:
		a.Flags = uint32(pick(d, 3, 3, 3, 1, 2, 0, 4, throwNumber(d)))
	case api.AskInfo, api.AskGo:
		a.Name = pick(d, "a", "a", "p", "r", throwText(d))
		for range d.below(4) {
			a.Infos = append(a.Infos, uint16(pick(d, 0, 1, 2, 3, throwNumber(d)%65536)))
		}
	case api.AskExport:
		a.Name = pick(d, "a", "a", "p", "r", throwText(d))
	case api.AskListMeta, api.AskSetMeta:
		a.Name = pick(d, "a", "a", "p", "r", throwText(d))
		for range d.below(4) {
			a.Queries = append(a.Queries, throwText(d))
		}
	case api.AskOption:
		a.Code, a.Data = uint32(pick(d, 2, 3, 5, 6, 7, 8, 9, 10, 11, 77)), []byte(throwText(d))
	case api.AskRequest:
		a.Req = throwRequest(d)
	}
	return a
}

func throwStep(d *dice) step {
	conn := pick(d, 0, 0, 1, 1, 2, 3, throwNumber(d))
	switch x := (step{Kind: api.StepKind(1 + d.below(11))}); x.Kind {
	case api.SFeed:
		list := "IHAVEOPT\x00\x00\x00\x03\x00\x00\x00\x00"
		x.Conn, x.Data = conn, []byte(pick(d, throwText(d), "\x00\x00\x00\x03", list, list))
		return x
	case api.STake, api.SShut:
		x.Conn = conn
		return x
	case api.SRun, api.SSend:
		x.Conn, x.N = conn, pick(d, 0, 0, 0, 1, throwNumber(d))
		return x
	case api.SClear:
		x.N = d.below(4)
		return x
	case api.SFault:
		x.Fault = api.Fault{Kind: 1 + d.below(3), Sector: pick(d, -1, -1, d.below(110)), After: d.below(4), Times: d.below(3), Land: d.bool()}
		return x
	case api.SCrash:
		for range d.below(6) {
			x.Keep = append(x.Keep, d.bool())
		}
		return x
	default:
		return x
	}
}

// throwLine throws for a line that a text can say.
func throwLine(d *dice) line {
	who := pick(d, 0, 0, 0, 0, 0, 1, 1, 2, throwNumber(d))
	switch d.below(15) {
	case 0:
		return line{Kind: api.LineSay, Who: who, N: pick(d, 0, 1, 4, 28, 100, 5000, throwNumber(d))}
	case 1, 2, 3:
		return line{Kind: api.LineMove, Who: who}
	case 4, 5, 6:
		x := throwStep(d)
		if (x.Kind == api.SCrash || x.Kind == api.SShut) && d.below(4) > 0 {
			return throwLine(d)
		}
		return stepLine(x)
	}
	return asks(who, throwAsk(d))
}

// throwScript throws for a script of clients that begin, most of them, and what comes then.
func throwScript(d *dice, n int) script {
	s := script{
		Sectors: 100,
		Label: api.Label{Exports: []api.Export{
			{Name: "a", Sectors: 8, Min: 1, Pref: 512, Tracked: d.bool(), Desc: "first"},
			{Name: "p", Sectors: 4, Min: 1, Pref: 512, Private: true},
			{Name: "r", Sectors: 2, Min: 512, Pref: 512, ReadOnly: d.bool(), Rotational: d.bool()},
		}},
		Config: api.Config{Lines: 1 + d.below(6), Conns: 1 + d.below(4), Limits: api.Limits{Payload: 1024, Option: 128, Flight: 1 + d.below(4)}},
	}
	for who := range d.below(3) + 1 {
		s.Lines = append(s.Lines, asks(who, ask{Kind: api.AskOpen}), asks(who, ask{Kind: api.AskFlags, Flags: uint32(pick(d, 3, 3, 3, 7))}), asks(who, ask{Kind: api.AskFlags, Flags: 3}))
		if d.bool() {
			s.Lines = append(s.Lines, asks(who, ask{Kind: pick(d, api.AskStructured, api.AskExtended)}), line{Kind: api.LineMove, Who: who})
		}
		if d.bool() {
			s.Lines = append(s.Lines, asks(who, ask{Kind: api.AskSetMeta, Name: pick(d, "a", "p"), Queries: []string{"base:allocation", "spindle:unsaved", "spindle:dirty"}}), line{Kind: api.LineMove, Who: who})
		}
		s.Lines = append(s.Lines, asks(who, ask{Kind: api.AskGo, Name: pick(d, "a", "a", "p", "r")}), line{Kind: api.LineMove, Who: who})
	}
	for len(s.Lines) < n {
		s.Lines = append(s.Lines, throwLine(d))
		if d.below(20) == 0 {
			s.Lines = append(s.Lines, stepLine(step{Kind: api.SStart}))
		}
	}
	return s
}

// fed tells whether a script has bytes said on a connection that its client does not know of: that one may hear what breaks it.
func fed(s script) bool {
	return slices.ContainsFunc(s.Lines, func(l line) bool { return l.Kind == api.LineStep && l.Step.Kind == api.SFeed })
}

// W7, W9, P18.2 to P18.6: thrown scripts against the plain reading: printed, parsed, played, told; no client hears that its server is broken.
func TestThrownScripts(t *testing.T) {
	met := map[string]int{}
	for seed := range 300 {
		d := dice(seed)
		s := throwScript(&d, 10+d.below(80))
		what := "script " + itoa(seed)
		text, e := holdPrint(t, what, s)
		wantErr(t, what, e, api.OK)
		r := holdRun(t, what, s)
		told := holdTell(t, what, s, r)
		wantPlayed(t, what, text, told)
		for i, h := range r.Heard {
			met["error "+itoa(int(h.Err))]++
			for j, x := range h.Steps {
				met[named(plainSteps, x.Kind)+" error "+itoa(int(h.Answers[j].Err))]++
				met["code "+itoa(int(h.Answers[j].Code))]++
			}
			for _, v := range h.Events {
				met[strings.Fields(plainEvent(v))[0]]++
				if v.Kind == api.EvBroken && !fed(s) {
					t.Errorf("%s: a client heard that its server is broken, at %s", what, plainLine(s.Lines[i]))
				}
			}
		}
		if t.Failed() {
			t.Fatal(what + ":\n" + text)
		}
	}
	for _, kind := range strings.Split("error 160,error 101,feed error 0,feed error 152,feed error 154,take error 154,run error 0,run error 151,run error 154,send error 0,send error 151,open error 155,start error 153,write error 0,write error 152,cut error 0,crash error 0,fault error 0,fault error 34,clear error 0,clear error 151,code 0,code 5,greeting,export,info,meta,ack,refused,start,done,broken", ",") {
		if met[kind] < 5 {
			t.Errorf("hardly met: %s, %d", kind, met[kind])
		}
	}
}

// throwEdit turns something in a text.
func throwEdit(d *dice, text string) string {
	lines := strings.Split(text, "\n")
	i := d.below(len(lines))
	words := strings.Split(lines[i], " ")
	j := d.below(len(words))
	switch d.below(9) {
	case 0:
		lines = slices.Delete(lines, i, i+1)
	case 1:
		lines = slices.Insert(lines, i, lines[d.below(len(lines))])
	case 2:
		other := strings.Split(lines[d.below(len(lines))], " ")
		words[j] = other[d.below(len(other))]
		lines[i] = strings.Join(words, " ")
	case 3:
		lines[i] = strings.Join(slices.Delete(words, j, j+1), " ")
	case 4:
		lines[i] = strings.Join(slices.Insert(words, j, pick(d, "0", "1", "", "\t", "\"\"", "\"x y\"", "any", "land", "-", "01", "4294967296", "\"", "#")), pick(d, " ", "\t", "  "))
	case 5:
		lines = slices.Insert(lines, i, pick(d, "", " ", "# note", "\t#\"", "open", "nothing", "config 1 1 1 1 1", "disk 1"))
	case 6:
		at := d.below(len(text) + 1)
		return text[:at] + string([]byte{pick(d, ' ', '"', '\\', '\n', '\t', '#', '0', 'x', byte(d.below(256)))}) + text[at:]
	case 7:
		at := d.below(len(text) + 1)
		return text[:at]
	default:
		if at := d.below(len(text) + 1); at < len(text) {
			return text[:at] + text[at+1:]
		}
	}
	return strings.Join(lines, "\n")
}

// P18.1, P18.6: thrown texts, turned here and there, against the plain reading.
func TestThrownTexts(t *testing.T) {
	right, wrong := 0, 0
	for seed := range 3000 {
		d := dice(seed)
		var s script
		if seed%3 == 0 {
			s = wantParsed(t, head+everyLine)
		} else {
			s = throwScript(&d, d.below(12))
		}
		text, _ := engine.Print(s)
		for range d.below(5) {
			if text != "" {
				text = throwEdit(&d, text)
			}
		}
		s, _, e := holdText(t, text)
		if e == api.OK {
			holdPrint(t, "text "+itoa(seed), s)
			right++
		} else {
			wrong++
		}
		if t.Failed() {
			t.Fatalf("text %d: %q", seed, text)
		}
	}
	want(t, "right and wrong texts were met", right > 300 && wrong > 300, true)
}

// throwField sets a field of a line to something, often to what may not be.
func throwField(d *dice, s *script) {
	if len(s.Lines) == 0 {
		return
	}
	l := &s.Lines[d.below(len(s.Lines))]
	n := pick(d, -1, 0, 1, 5, 16, 1<<31, -1<<63, 1<<63-1)
	switch d.below(12) {
	case 0:
		l.Kind = api.LineKind(n)
	case 1:
		l.Who = n
	case 2:
		l.N = n
	case 3:
		l.Step.Kind = api.StepKind(n)
	case 4:
		l.Step.Conn = n
	case 5:
		l.Step.N = n
	case 6:
		l.Step.Fault.Sector = n
	case 7:
		l.Ask.Kind = api.AskKind(n)
	case 8:
		l.Ask.Data = []byte(throwText(d))
	case 9:
		l.Ask.Req.Cookie = uint64(n)
	case 10:
		l.Step.Keep = append(l.Step.Keep, d.bool())
	case 11:
		l.Kind = api.LineKind(1 + d.below(4))
	}
}

// R1, P18.2 to P18.4: thrown scripts that no text says.
func TestThrownScriptsOfNoText(t *testing.T) {
	for seed := range 300 {
		d := dice(seed)
		s := throwScript(&d, 6+d.below(20))
		for range 1 + d.below(5) {
			throwField(&d, &s)
		}
		what := "script " + itoa(seed)
		holdPrint(t, what, s)
		r := holdRun(t, what, s)
		if d.bool() {
			s.Lines = s.Lines[:d.below(len(s.Lines)+1)]
		}
		holdTell(t, what, s, r)
		if t.Failed() {
			t.Fatal(what, shown(s))
		}
	}
}

// P18.6: lines that say nothing, put in anywhere, change nothing but the numbers of lines.
func TestSilentLinesAnywhere(t *testing.T) {
	for seed := range 150 {
		d := dice(seed)
		text, _ := engine.Print(throwScript(&d, 5+d.below(20)))
		if d.bool() {
			text = throwEdit(&d, text)
		}
		lines := strings.Split(strings.TrimSuffix(text, "\n"), "\n")
		var more []string
		var numbers []int // of each line, its number among more
		for _, l := range lines {
			for range d.below(3) {
				more = append(more, pick(&d, "", " ", "\t\t", "#", "# disk 1", " # \"", "#open"))
			}
			more = append(more, l)
			numbers = append(numbers, len(more))
		}
		with := strings.Join(more, "\n") + "\n"
		s, at, e := parseOf(t, strings.Join(lines, "\n")+"\n")
		ms, mat, me := parseOf(t, with)
		wantSame(t, "the script", ms, s)
		wantErr(t, "the error", me, e)
		numbers = append(numbers, len(more)+1)
		if e != api.OK && mat != numbers[at-1] {
			t.Errorf("line %d of %q, line %d of %q", at, text, mat, with)
		}
		if e == api.OK {
			wantPlayed(t, "with lines that say nothing", with, playOf(t, text))
		}
	}
}
