package engine

import (
	"strconv"

	"spindle/api"
	"spindle/octet"
	"spindle/words"
)

// A page is the text that tells a report.
type page struct {
	words.Page
}

// addHeard writes what came of a line.
func (p *page) addHeard(h api.Heard) {
	if h.Err != api.OK {
		p.Add(errorText(h.Err))
	}
	if h.Cookie != 0 {
		p.Add("cookie", number(h.Cookie))
	}
	for i := range min(len(h.Answers), len(h.Steps)) {
		p.Add(answerWords(h.Steps[i], h.Answers[i])...)
	}
	for _, v := range h.Events {
		p.Add(append([]string{"heard"}, eventWords(v)...)...)
	}
}

// addEnd writes how all stands at the end.
func (p *page) addEnd(r api.Report) {
	if r.Up {
		p.Add("up")
	} else {
		p.Add("down")
	}
	for i, b := range r.Exports {
		p.Add("export", strconv.Itoa(i), strconv.Itoa(len(b)), sumOf(b))
	}
	p.Add("queue", strconv.Itoa(r.Queue))
}

// sumOf gives the digits of a check sum's four bytes.
func sumOf(b []byte) string {
	w := octet.NewWriter()
	w.U32(octet.Crc(b))
	return octet.Hex(w.Out())
}

func answerWords(x api.Step, a api.Answer) []string {
	out := []string{stepName(x.Kind)}
	if a.Err != api.OK {
		out = append(out, errorText(a.Err))
	} else {
		out = append(out, cameWords(x, a)...)
	}
	if len(a.Out) > 0 {
		out = append(out, "out", octet.Hex(a.Out))
	}
	return out
}

// cameWords tell what a step without an error came to.
func cameWords(x api.Step, a api.Answer) []string {
	switch x.Kind {
	case api.SOpen:
		return []string{strconv.Itoa(a.Conn)}
	case api.SFeed, api.SSend:
		return []string{strconv.Itoa(x.Conn), strconv.Itoa(a.N)}
	case api.STake:
		return append([]string{strconv.Itoa(x.Conn)}, tookWords(a.Took)...)
	case api.SRun:
		return []string{strconv.Itoa(x.Conn), strconv.Itoa(a.N), "code", number(a.Code)}
	case api.SShut:
		return []string{strconv.Itoa(x.Conn)}
	case api.SWrite, api.SClear:
		return []string{strconv.Itoa(a.N)}
	}
	return nil
}

func tookWords(t api.Took) []string {
	switch t.Kind {
	case api.TookNone:
		return []string{"none"}
	case api.TookFlags:
		return []string{"flags"}
	case api.TookOption:
		return []string{"option", number(t.Code)}
	case api.TookEnd:
		return []string{"end", number(t.Code)}
	case api.TookRequest:
		q := t.Task.Req
		out := []string{"request", strconv.Itoa(t.Task.ID), number(q.Type), number(q.Flags), number(q.Cookie), number(q.Offset), number(q.Length)}
		if t.Refused {
			out = append(out, "refused")
		}
		return out
	}
	return []string{"took"}
}

func eventWords(v api.Event) []string {
	switch v.Kind {
	case api.EvGreeting:
		return []string{"greeting", number(v.Flags)}
	case api.EvExport:
		return []string{"export", octet.Quote(v.Text)}
	case api.EvInfo:
		i := v.Info
		return []string{"info", number(i.Kind), number(i.Size), number(i.Flags), octet.Quote(i.Text), number(i.Min), number(i.Pref), number(i.Max), octet.Quote(string(i.Data))}
	case api.EvMeta:
		return []string{"meta", number(v.Meta.ID), octet.Quote(v.Meta.Name)}
	case api.EvAck:
		return []string{"ack", number(v.Option)}
	case api.EvRefused:
		return []string{"refused", number(v.Option), number(v.Code)}
	case api.EvStart:
		return []string{"start", number(v.Info.Size), number(v.Info.Flags)}
	case api.EvDone:
		return append([]string{"done", number(v.Cookie), number(v.Code), octet.Quote(string(v.Data))}, statusWords(v.Status)...)
	case api.EvBroken:
		return []string{"broken"}
	}
	return []string{"event"}
}

// statusWords gives a word for each context, which has its runs behind it.
func statusWords(list []api.ContextRuns) []string {
	var out []string
	for _, c := range list {
		word := number(c.Context)
		for _, r := range c.Runs {
			word += ":" + number(r.Len) + "/" + number(r.Flags)
		}
		out = append(out, word)
	}
	return out
}
