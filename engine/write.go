package engine

import (
	"strconv"
	"strings"

	"spindle/api"
	"spindle/octet"
	"spindle/words"
)

// written gives a script's text. Of a script that no text says it is a text that is refused, or says another script.
func written(s api.Script) string {
	var out words.Page
	out.Add("disk", strconv.Itoa(s.Sectors))
	for _, x := range s.Label.Exports {
		out.Add(append([]string{"export"}, words.OfExport(x)...)...)
	}
	c := s.Config
	out.Add("config", strconv.Itoa(c.Lines), strconv.Itoa(c.Conns), number(c.Limits.Payload), number(c.Limits.Option), strconv.Itoa(c.Limits.Flight))
	for _, l := range s.Lines {
		out.Add(lineWords(l)...)
	}
	return out.Text()
}

// shown gives a line as Print writes it, or a word that is no line, if it does not.
func shown(l api.ScriptLine) string {
	text := strings.Join(lineWords(l), " ")
	g := reading{place: atLines}
	if !g.take(text) || !sameLine(g.line, l) {
		return noName
	}
	return text
}

// number gives the digits of a number of any width.
func number[N uint16 | uint32 | uint64](v N) string { return octet.Decimal(uint64(v)) }

func lineWords(l api.ScriptLine) []string {
	switch l.Kind {
	case api.LineStep:
		return append([]string{stepName(l.Step.Kind)}, stepWords(l.Step)...)
	case api.LineClient:
		return append([]string{"client", strconv.Itoa(l.Who), askName(l.Ask.Kind)}, askWords(l.Ask)...)
	case api.LineSay:
		return []string{"say", strconv.Itoa(l.Who), strconv.Itoa(l.N)}
	case api.LineMove:
		return []string{"move", strconv.Itoa(l.Who)}
	}
	return []string{noName}
}

func stepWords(x api.Step) []string {
	switch x.Kind {
	case api.SFeed:
		return []string{strconv.Itoa(x.Conn), octet.Quote(string(x.Data))}
	case api.STake, api.SShut:
		return []string{strconv.Itoa(x.Conn)}
	case api.SRun, api.SSend:
		return []string{strconv.Itoa(x.Conn), strconv.Itoa(x.N)}
	case api.SClear:
		return []string{strconv.Itoa(x.N)}
	case api.SFault:
		return faultWords(x.Fault)
	case api.SCrash:
		return []string{places(x.Keep)}
	}
	return nil
}

func faultWords(f api.Fault) []string {
	out := []string{faultName(f.Kind), sectorWord(f.Sector), strconv.Itoa(f.After), strconv.Itoa(f.Times)}
	if f.Land {
		out = append(out, lands)
	}
	return out
}

func sectorWord(n int) string {
	if n == -1 {
		return anySector
	}
	return strconv.Itoa(n)
}

func places(keep []bool) string {
	if len(keep) == 0 {
		return noPlaces
	}
	out := make([]byte, len(keep))
	for i, kept := range keep {
		out[i] = '0'
		if kept {
			out[i] = '1'
		}
	}
	return string(out)
}

func askWords(q api.Ask) []string {
	switch q.Kind {
	case api.AskFlags:
		return []string{number(q.Flags)}
	case api.AskExport:
		return []string{octet.Quote(q.Name)}
	case api.AskInfo, api.AskGo:
		return named(q.Name, q.Infos, number[uint16])
	case api.AskListMeta, api.AskSetMeta:
		return named(q.Name, q.Queries, octet.Quote)
	case api.AskOption:
		return []string{number(q.Code), octet.Quote(string(q.Data))}
	case api.AskRequest:
		return requestWords(q.Req)
	}
	return nil
}

// named gives a name, and a word for each of what is asked of it.
func named[T any](name string, list []T, word func(T) string) []string {
	out := []string{octet.Quote(name)}
	for _, x := range list {
		out = append(out, word(x))
	}
	return out
}

func requestWords(q api.Request) []string {
	out := []string{number(q.Type), number(q.Flags), number(q.Offset), number(q.Length)}
	if q.Type == api.CmdWrite {
		out = append(out, octet.Quote(string(q.Data)))
	}
	return out
}
