package engine_test

import (
	"encoding/binary"
	"encoding/hex"
	"fmt"
	"math/big"
	"regexp"
	"strings"

	"spindle/api"
	"spindle/client"
	"spindle/octet"
	"spindle/server"
)

// A plain reading of the chapter, against which the package is held.

// plainTable is the table's lines, a word each; a star stands behind what may come any number of times, a question mark behind what need not.
var plainTable = map[string]func(p *plainParser, w []string){
	"disk INT": func(p *plainParser, w []string) { p.s.Sectors = p.int(w[1]) },
	"export QUOTED INT U32 U32 FLAGS QUOTED": func(p *plainParser, w []string) {
		f := p.int(w[5])
		p.s.Label.Exports = append(p.s.Label.Exports, api.Export{Name: p.text(w[1]), Sectors: p.int(w[2]), Min: uint32(p.number(w[3])), Pref: uint32(p.number(w[4])),
			ReadOnly: f&1 != 0, Rotational: f&2 != 0, Private: f&4 != 0, Tracked: f&8 != 0, Desc: p.text(w[6])})
	},
	"config INT INT U32 U32 INT": func(p *plainParser, w []string) {
		p.s.Config = api.Config{Lines: p.int(w[1]), Conns: p.int(w[2]), Limits: api.Limits{Payload: uint32(p.number(w[3])), Option: uint32(p.number(w[4])), Flight: p.int(w[5])}}
	},
	"open": func(p *plainParser, w []string) { p.step(step{Kind: api.SOpen}) },
	"feed INT QUOTED": func(p *plainParser, w []string) {
		p.step(step{Kind: api.SFeed, Conn: p.int(w[1]), Data: []byte(p.text(w[2]))})
	},
	"take INT":     func(p *plainParser, w []string) { p.step(step{Kind: api.STake, Conn: p.int(w[1])}) },
	"cut INT":      func(p *plainParser, w []string) { p.step(step{Kind: api.SShut, Conn: p.int(w[1])}) },
	"run INT INT":  func(p *plainParser, w []string) { p.step(step{Kind: api.SRun, Conn: p.int(w[1]), N: p.int(w[2])}) },
	"send INT INT": func(p *plainParser, w []string) { p.step(step{Kind: api.SSend, Conn: p.int(w[1]), N: p.int(w[2])}) },
	"write":        func(p *plainParser, w []string) { p.step(step{Kind: api.SWrite}) },
	"start":        func(p *plainParser, w []string) { p.step(step{Kind: api.SStart}) },
	"clear INT":    func(p *plainParser, w []string) { p.step(step{Kind: api.SClear, N: p.int(w[1])}) },
	"fault KIND SECTOR INT INT land?": func(p *plainParser, w []string) {
		f := api.Fault{Kind: map[string]int{"read": 1, "write": 2, "barrier": 3}[w[1]], Sector: -1, After: p.int(w[3]), Times: p.int(w[4]), Land: len(w) > 5}
		if w[2] != "any" {
			f.Sector = p.int(w[2])
		}
		p.step(step{Kind: api.SFault, Fault: f})
	},
	"crash KEEP": func(p *plainParser, w []string) {
		var keep []bool
		for _, c := range strings.Trim(w[1], "-") {
			keep = append(keep, c == '1')
		}
		p.step(step{Kind: api.SCrash, Keep: keep})
	},
	"client INT open":       func(p *plainParser, w []string) { p.ask(w, ask{Kind: api.AskOpen}) },
	"client INT list":       func(p *plainParser, w []string) { p.ask(w, ask{Kind: api.AskList}) },
	"client INT abort":      func(p *plainParser, w []string) { p.ask(w, ask{Kind: api.AskAbort}) },
	"client INT structured": func(p *plainParser, w []string) { p.ask(w, ask{Kind: api.AskStructured}) },
	"client INT extended":   func(p *plainParser, w []string) { p.ask(w, ask{Kind: api.AskExtended}) },
	"client INT disc":       func(p *plainParser, w []string) { p.ask(w, ask{Kind: api.AskDisc}) },
	"client INT close":      func(p *plainParser, w []string) { p.ask(w, ask{Kind: api.AskClose}) },
	"client INT flags U32":  func(p *plainParser, w []string) { p.ask(w, ask{Kind: api.AskFlags, Flags: uint32(p.number(w[3]))}) },
	"client INT info QUOTED U16*": func(p *plainParser, w []string) {
		p.ask(w, ask{Kind: api.AskInfo, Name: p.text(w[3]), Infos: p.infos(w[4:])})
	},
	"client INT go QUOTED U16*": func(p *plainParser, w []string) {
		p.ask(w, ask{Kind: api.AskGo, Name: p.text(w[3]), Infos: p.infos(w[4:])})
	},
	"client INT export QUOTED": func(p *plainParser, w []string) { p.ask(w, ask{Kind: api.AskExport, Name: p.text(w[3])}) },
	"client INT list-meta QUOTED QUOTED*": func(p *plainParser, w []string) {
		p.ask(w, ask{Kind: api.AskListMeta, Name: p.text(w[3]), Queries: p.texts(w[4:])})
	},
	"client INT set-meta QUOTED QUOTED*": func(p *plainParser, w []string) {
		p.ask(w, ask{Kind: api.AskSetMeta, Name: p.text(w[3]), Queries: p.texts(w[4:])})
	},
	"client INT option U32 QUOTED": func(p *plainParser, w []string) {
		p.ask(w, ask{Kind: api.AskOption, Code: uint32(p.number(w[3])), Data: []byte(p.text(w[4]))})
	},
	"client INT request U16 U16 U64 U64 QUOTED?": func(p *plainParser, w []string) {
		q := api.Request{Type: uint16(p.number(w[3])), Flags: uint16(p.number(w[4])), Offset: p.number(w[5]), Length: p.number(w[6])}
		p.right = p.right && (q.Type == 1) == (len(w) == 8)
		if len(w) == 8 {
			q.Data = []byte(p.text(w[7]))
		}
		p.ask(w, ask{Kind: api.AskRequest, Req: q})
	},
	"say INT INT": func(p *plainParser, w []string) {
		p.s.Lines = append(p.s.Lines, line{Kind: api.LineSay, Who: p.int(w[1]), N: p.int(w[2])})
	},
	"move INT": func(p *plainParser, w []string) {
		p.s.Lines = append(p.s.Lines, line{Kind: api.LineMove, Who: p.int(w[1])})
	},
}

const plainQuoted = `"(?:[^"\\]|\\.)*"`

// plainWords are what the table's great words stand for.
var plainWords = map[string]string{
	"INT": `\d+`, "U16": `\d+`, "U32": `\d+`, "U64": `\d+`, "FLAGS": `\d+`, "QUOTED": plainQuoted,
	"KIND": `(?:read|write|barrier)`, "SECTOR": `(?:any|\d+)`, "KEEP": `(?:-|[01]+)`,
}

var plainMost = map[string]string{"INT": "2147483647", "SECTOR": "2147483647", "U16": "65535", "U32": "4294967295", "U64": "18446744073709551615", "FLAGS": "15"}

var plainLines = func() map[string]*regexp.Regexp {
	out := map[string]*regexp.Regexp{}
	for form := range plainTable {
		pattern := ""
		for i, word := range strings.Fields(form) {
			bare := strings.TrimRight(word, "*?")
			more := word[len(bare):]
			if w := plainWords[bare]; w != "" {
				bare = w
			}
			if i > 0 {
				bare = `[ \t]+` + bare
			}
			pattern += "(?:" + bare + ")" + more
		}
		out[form] = regexp.MustCompile(`^(?s:[ \t]*` + pattern + `[ \t]*)$`)
	}
	return out
}()

var plainCut = regexp.MustCompile(`(?s:` + plainQuoted + `|[^ \t]+)`)

type plainParser struct {
	s     script
	right bool
}

func (p *plainParser) number(w string) uint64 {
	v, _ := octet.Number(w)
	return v
}
func (p *plainParser) int(w string) int { return int(p.number(w)) }
func (p *plainParser) text(w string) string {
	s, e := octet.Unquote(w)
	p.right = p.right && e == api.OK
	return s
}

func (p *plainParser) infos(list []string) []uint16 {
	var out []uint16
	for _, w := range list {
		out = append(out, uint16(p.number(w)))
	}
	return out
}

func (p *plainParser) texts(list []string) []string {
	var out []string
	for _, w := range list {
		out = append(out, p.text(w))
	}
	return out
}

func (p *plainParser) step(x step) { p.s.Lines = append(p.s.Lines, line{Kind: api.LineStep, Step: x}) }

func (p *plainParser) ask(w []string, a ask) {
	p.s.Lines = append(p.s.Lines, line{Kind: api.LineClient, Who: p.int(w[1]), Ask: a})
}

// plainBounds tells whether a line's numbers are within their bounds, and written as they must be.
func plainBounds(form string, words []string) bool {
	forms := strings.Fields(form)
	for i, w := range words {
		kind := forms[min(i, len(forms)-1)]
		most, known := plainMost[strings.TrimRight(kind, "*?")]
		if !known || w == "any" {
			continue
		}
		bound, _ := new(big.Int).SetString(most, 10)
		v, ok := new(big.Int).SetString(w, 10)
		if !ok || v.String() != w || v.Cmp(bound) > 0 {
			return false
		}
	}
	return true
}

// line takes a line that says something, and gives the word that it begins with; none, if it may not be.
func (p *plainParser) line(l string) string {
	for form, pattern := range plainLines {
		if !pattern.MatchString(l) {
			continue
		}
		words := plainCut.FindAllString(l, -1)
		p.right = plainBounds(form, words)
		if p.right {
			plainTable[form](p, words)
		}
		if p.right {
			return words[0]
		}
	}
	return ""
}

// plainParse is P18.1.
func plainParse(text string) (script, int, api.Errno) {
	if len(text) > 1<<20 {
		return script{}, 0, api.ErrScript
	}
	lines := strings.Split(text, "\n")
	if lines[len(lines)-1] == "" {
		lines = lines[:len(lines)-1]
	}
	var p plainParser
	seen, long := map[string]int{}, 0
	for i, l := range lines {
		if bare := strings.Trim(l, " \t"); bare == "" || bare[0] == '#' {
			continue
		}
		word := p.line(l)
		may := word != ""
		switch word {
		case "disk":
			may = seen["disk"] == 0
		case "export":
			may = seen["disk"] == 1 && seen["config"] == 0 && seen["export"] < 16
		case "config":
			may = seen["disk"] == 1 && seen["config"] == 0
		default:
			may = may && seen["config"] == 1
		}
		if !may {
			return script{}, i + 1, api.ErrLine
		}
		seen[word]++
		if long == 0 && len(p.s.Lines) > 4096 {
			long = i + 1
		}
	}
	if seen["disk"] == 0 || seen["config"] == 0 {
		return script{}, len(lines) + 1, api.ErrLine
	}
	if long > 0 {
		return script{}, long, api.ErrScript
	}
	return p.s, 0, api.OK
}

// plainPrint is P18.2: what is written, if it is the script again.
func plainPrint(s script) (string, api.Errno) {
	text := fmt.Sprintln("disk", s.Sectors)
	for _, x := range s.Label.Exports {
		flags := 0
		for i, has := range []bool{x.ReadOnly, x.Rotational, x.Private, x.Tracked} {
			if has {
				flags += 1 << i
			}
		}
		text += fmt.Sprintln("export", octet.Quote(x.Name), x.Sectors, x.Min, x.Pref, flags, octet.Quote(x.Desc))
	}
	c := s.Config
	text += fmt.Sprintln("config", c.Lines, c.Conns, c.Limits.Payload, c.Limits.Option, c.Limits.Flight)
	for _, l := range s.Lines {
		text += plainLine(l) + "\n"
	}
	if len(text) <= 1<<20 {
		if again, _, e := plainParse(text); e != api.OK || shown(again) != shown(s) {
			return "", api.ErrLine
		}
	}
	return text, api.OK
}

var (
	plainSteps = []string{"?", "open", "feed", "take", "run", "send", "cut", "write", "fault", "crash", "start", "clear"}
	plainAsks  = []string{"?", "open", "flags", "list", "info", "go", "export", "abort", "structured", "list-meta", "set-meta", "option", "request", "disc", "close", "extended"}
	plainKinds = []string{"?", "read", "write", "barrier"}
)

func named[K ~int](list []string, k K) string {
	if k < 0 || int(k) >= len(list) {
		return "?"
	}
	return list[k]
}

// plainLine is a line as Print has it, as far as its kinds are some.
func plainLine(l line) string {
	x, a := l.Step, l.Ask
	switch l.Kind {
	case api.LineSay:
		return fmt.Sprint("say ", l.Who, " ", l.N)
	case api.LineMove:
		return fmt.Sprint("move ", l.Who)
	case api.LineClient:
		out := []any{"client", l.Who, named(plainAsks, a.Kind)}
		switch a.Kind {
		case api.AskFlags:
			out = append(out, a.Flags)
		case api.AskInfo, api.AskGo:
			out = append(out, octet.Quote(a.Name))
			for _, i := range a.Infos {
				out = append(out, i)
			}
		case api.AskExport:
			out = append(out, octet.Quote(a.Name))
		case api.AskListMeta, api.AskSetMeta:
			out = append(out, octet.Quote(a.Name))
			for _, q := range a.Queries {
				out = append(out, octet.Quote(q))
			}
		case api.AskOption:
			out = append(out, a.Code, octet.Quote(string(a.Data)))
		case api.AskRequest:
			out = append(out, a.Req.Type, a.Req.Flags, a.Req.Offset, a.Req.Length)
			if a.Req.Type == 1 {
				out = append(out, octet.Quote(string(a.Req.Data)))
			}
		}
		return strings.TrimSuffix(fmt.Sprintln(out...), "\n")
	case api.LineStep:
		out := []any{named(plainSteps, x.Kind)}
		switch x.Kind {
		case api.SFeed:
			out = append(out, x.Conn, octet.Quote(string(x.Data)))
		case api.STake, api.SShut:
			out = append(out, x.Conn)
		case api.SRun, api.SSend:
			out = append(out, x.Conn, x.N)
		case api.SClear:
			out = append(out, x.N)
		case api.SFault:
			sector := fmt.Sprint(x.Fault.Sector)
			if x.Fault.Sector == -1 {
				sector = "any"
			}
			out = append(out, named(plainKinds, x.Fault.Kind), sector, x.Fault.After, x.Fault.Times)
			if x.Fault.Land {
				out = append(out, "land")
			}
		case api.SCrash:
			keep := ""
			for _, k := range x.Keep {
				keep += map[bool]string{false: "0", true: "1"}[k]
			}
			if keep == "" {
				keep = "-"
			}
			out = append(out, keep)
		}
		return strings.TrimSuffix(fmt.Sprintln(out...), "\n")
	}
	return "?"
}

// A plainGuest is a client of a script: conn is -1 of one that has no connection.
type plainGuest struct {
	c    *client.Client
	conn int
	mail []byte
}

type plainRunner struct {
	s      *server.Server
	guests map[int]*plainGuest
	h      heard
}

// plainRun is P18.3.
func plainRun(s script) (api.Report, api.Errno) {
	if len(s.Lines) > 4096 {
		return api.Report{}, api.ErrScript
	}
	image, e := server.Format(s.Sectors, s.Label)
	if e != api.OK {
		return api.Report{}, e
	}
	machine, e := server.New(image, s.Config)
	if e != api.OK {
		return api.Report{}, e
	}
	r := plainRunner{s: machine, guests: map[int]*plainGuest{}}
	var out api.Report
	for _, l := range s.Lines {
		r.h = heard{}
		r.line(l)
		out.Heard = append(out.Heard, own(r.h))
	}
	out.Up = machine.Up()
	for i := 0; out.Up && i < len(s.Label.Exports); i++ {
		b, _ := machine.Peek(i)
		out.Exports = append(out.Exports, b)
	}
	out.Queue = len(machine.Queue())
	return out, api.OK
}

func (r *plainRunner) line(l line) {
	g := r.guests[l.Who]
	linked := g != nil && g.conn >= 0
	switch {
	case l.Kind == api.LineStep:
		r.make(l.Step)
	case l.Kind == api.LineSay && linked && l.N >= 0:
		a := r.make(step{Kind: api.SFeed, Conn: g.conn, Data: g.mail[:min(l.N, len(g.mail))]})
		g.mail = g.mail[a.N:]
	case l.Kind == api.LineMove && linked:
		for r.round(g) {
		}
	case l.Kind == api.LineSay || l.Kind == api.LineMove:
		r.h.Err = 160
	case l.Kind == api.LineClient && l.Ask.Kind == api.AskOpen && (l.Who < 0 || l.Who > 15 || g != nil):
		r.h.Err = 160
	case l.Kind == api.LineClient && l.Ask.Kind == api.AskOpen:
		r.guests[l.Who] = &plainGuest{client.New(), int(r.s.Look().Next), nil}
		if a := r.make(step{Kind: api.SOpen}); a.Err != 0 {
			delete(r.guests, l.Who)
		}
	case l.Kind == api.LineClient && (l.Ask.Kind < 1 || l.Ask.Kind > 15):
	case l.Kind == api.LineClient && g == nil:
		r.h.Err = 160
	case l.Kind == api.LineClient && l.Ask.Kind == api.AskClose:
		if linked {
			r.make(step{Kind: api.SShut, Conn: g.conn})
		}
		delete(r.guests, l.Who)
	case l.Kind == api.LineClient:
		r.asked(g, l.Ask)
	}
}

func (r *plainRunner) asked(g *plainGuest, a ask) {
	plain := map[api.AskKind]uint32{api.AskList: 3, api.AskAbort: 2, api.AskStructured: 8, api.AskExtended: 11}
	var b []byte
	switch a.Kind {
	case api.AskFlags:
		b, r.h.Err = g.c.Flags(a.Flags)
	case api.AskList, api.AskAbort, api.AskStructured, api.AskExtended:
		b, r.h.Err = g.c.Option(plain[a.Kind], nil)
	case api.AskOption:
		b, r.h.Err = g.c.Option(a.Code, a.Data)
	case api.AskExport:
		b, r.h.Err = g.c.Option(1, []byte(a.Name))
	case api.AskInfo, api.AskGo:
		b, r.h.Err = g.c.Info(a.Kind == api.AskGo, api.InfoRequest{Name: a.Name, Infos: a.Infos})
	case api.AskListMeta, api.AskSetMeta:
		b, r.h.Err = g.c.Meta(a.Kind == api.AskSetMeta, api.MetaRequest{Name: a.Name, Queries: a.Queries})
	case api.AskRequest:
		b, r.h.Cookie, r.h.Err = g.c.Request(a.Req)
	case api.AskDisc:
		b, r.h.Cookie, r.h.Err = g.c.Request(api.Request{Type: 2})
	}
	g.mail = append(g.mail, b...)
}

// make makes a step and keeps it.
func (r *plainRunner) make(x step) answer {
	a, _ := r.may(x, func(answer) bool { return true })
	return a
}

// may makes a step, and keeps it if its answer is so.
func (r *plainRunner) may(x step, so func(answer) bool) (answer, bool) {
	x = own(x)
	a := r.s.Step(x)
	kept := so(a)
	if kept {
		r.h.Steps, r.h.Answers = append(r.h.Steps, x), append(r.h.Answers, a)
	}
	conn := x.Conn
	if x.Kind == api.SOpen {
		conn = a.Conn
	}
	for _, g := range r.guests {
		if x.Kind == api.SCrash {
			g.conn = -1
		}
		if len(a.Out) > 0 && g.conn == conn {
			r.h.Events = append(r.h.Events, g.c.In(a.Out)...)
		}
	}
	return a, kept
}

// round tells whether it did something, and went well.
func (r *plainRunner) round(g *plainGuest) bool {
	did := false
	if len(g.mail) > 0 {
		a, kept := r.may(step{Kind: api.SFeed, Conn: g.conn, Data: g.mail}, func(a answer) bool { return a.N > 0 || a.Err != 0 })
		if a.Err != 0 {
			return false
		}
		g.mail, did = g.mail[a.N:], kept
	}
	a, kept := r.may(step{Kind: api.STake, Conn: g.conn}, func(a answer) bool { return a.Took.Kind != 0 || a.Err != 0 })
	if a.Err != 0 {
		return false
	}
	did = did || kept
	for _, k := range []api.StepKind{api.SRun, api.SSend} {
		a, kept := r.may(step{Kind: k, Conn: g.conn}, func(a answer) bool { return a.Err != api.ErrStep })
		if kept && a.Err != 0 {
			return false
		}
		did = did || kept
	}
	return did
}

// plainTell is P18.4; whether a line is one that Print writes is asked of plainPrint.
func plainTell(s script, r api.Report) string {
	var out strings.Builder
	for i := range min(len(s.Lines), len(r.Heard)) {
		text := plainLine(s.Lines[i])
		if _, e := plainPrint(script{Lines: s.Lines[i : i+1]}); e != api.OK {
			text = "?"
		}
		fmt.Fprintln(&out, ">", text)
		h := r.Heard[i]
		if h.Err != 0 {
			fmt.Fprintln(&out, "error", int(h.Err))
		}
		if h.Cookie != 0 {
			fmt.Fprintln(&out, "cookie", h.Cookie)
		}
		for j := range min(len(h.Answers), len(h.Steps)) {
			fmt.Fprintln(&out, plainAnswer(h.Steps[j], h.Answers[j]))
		}
		for _, v := range h.Events {
			fmt.Fprintln(&out, "heard", plainEvent(v))
		}
	}
	fmt.Fprintln(&out, map[bool]string{false: "down", true: "up"}[r.Up])
	for i, b := range r.Exports {
		fmt.Fprintln(&out, "export", i, len(b), hex.EncodeToString(binary.BigEndian.AppendUint32(nil, octet.Crc(b))))
	}
	fmt.Fprintln(&out, "queue", r.Queue)
	return out.String()
}

func plainAnswer(x step, a answer) string {
	name := named(plainSteps, x.Kind)
	if name == "?" {
		name = "step"
	}
	out := ""
	switch x.Kind {
	case api.SOpen:
		out = fmt.Sprint(" ", a.Conn)
	case api.SFeed, api.SSend:
		out = fmt.Sprint(" ", x.Conn, " ", a.N)
	case api.STake:
		out = fmt.Sprint(" ", x.Conn, " ", plainTook(a.Took))
	case api.SRun:
		out = fmt.Sprint(" ", x.Conn, " ", a.N, " code ", a.Code)
	case api.SShut:
		out = fmt.Sprint(" ", x.Conn)
	case api.SWrite, api.SClear:
		out = fmt.Sprint(" ", a.N)
	}
	if a.Err != 0 {
		out = fmt.Sprint(" error ", int(a.Err))
	}
	if len(a.Out) > 0 {
		out += " out " + hex.EncodeToString(a.Out)
	}
	return name + out
}

func plainTook(k api.Took) string {
	switch k.Kind {
	case api.TookNone:
		return "none"
	case api.TookFlags:
		return "flags"
	case api.TookOption:
		return fmt.Sprint("option ", k.Code)
	case api.TookEnd:
		return fmt.Sprint("end ", k.Code)
	case api.TookRequest:
		q := k.Task.Req
		return strings.TrimSpace(fmt.Sprintln("request", k.Task.ID, q.Type, q.Flags, q.Cookie, q.Offset, q.Length, map[bool]string{true: "refused"}[k.Refused]))
	}
	return "took"
}

func plainEvent(v event) string {
	q := octet.Quote
	var out []any
	switch v.Kind {
	case api.EvGreeting:
		out = []any{"greeting", v.Flags}
	case api.EvExport:
		out = []any{"export", q(v.Text)}
	case api.EvInfo:
		i := v.Info
		out = []any{"info", i.Kind, i.Size, i.Flags, q(i.Text), i.Min, i.Pref, i.Max, q(string(i.Data))}
	case api.EvMeta:
		out = []any{"meta", v.Meta.ID, q(v.Meta.Name)}
	case api.EvAck:
		out = []any{"ack", v.Option}
	case api.EvRefused:
		out = []any{"refused", v.Option, v.Code}
	case api.EvStart:
		out = []any{"start", v.Info.Size, v.Info.Flags}
	case api.EvDone:
		out = []any{"done", v.Cookie, v.Code, q(string(v.Data))}
		for _, c := range v.Status {
			word := fmt.Sprint(c.Context)
			for _, run := range c.Runs {
				word += fmt.Sprint(":", run.Len, "/", run.Flags)
			}
			out = append(out, word)
		}
	case api.EvBroken:
		out = []any{"broken"}
	default:
		out = []any{"event"}
	}
	return strings.TrimSuffix(fmt.Sprintln(out...), "\n")
}

// plainPlay is P18.5.
func plainPlay(text string) string {
	s, at, e := plainParse(text)
	if e != api.OK {
		return fmt.Sprintln("line", at, "error", int(e))
	}
	r, e := plainRun(s)
	if e != api.OK {
		return fmt.Sprintln("error", int(e))
	}
	return plainTell(s, r)
}
