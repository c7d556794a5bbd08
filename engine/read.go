package engine

import (
	"slices"

	"spindle/api"
	"spindle/words"
)

// A place is where a word that leads may stand.
type place int

const (
	atDisk    place = iota // nothing was said yet
	atExports              // behind the disk
	atLines                // behind the configuration
	atAsking               // within a client's line
)

// A leader is a word that says what those behind it are: at the beginning of a line, or of a client's asking. to is where the next line stands.
type leader struct {
	word     string
	from, to place
	read     func(*reading)
}

// leaders are all of them. They are filled by init, since the reader of a client's line goes back to them.
var leaders []leader

func init() {
	leaders = []leader{
		{"disk", atDisk, atExports, readDisk},
		{"export", atExports, atExports, readExport},
		{"config", atExports, atLines, readConfig},
		stepLeader(api.SOpen, readNothing),
		stepLeader(api.SFeed, readFeed),
		stepLeader(api.STake, readConn),
		stepLeader(api.SShut, readConn),
		stepLeader(api.SRun, readConnAndN),
		stepLeader(api.SSend, readConnAndN),
		stepLeader(api.SWrite, readNothing),
		stepLeader(api.SStart, readNothing),
		stepLeader(api.SClear, readN),
		stepLeader(api.SFault, readFault),
		stepLeader(api.SCrash, readCrash),
		{"client", atLines, atLines, readClient},
		{"say", atLines, atLines, readSay},
		{"move", atLines, atLines, readMove},
		askLeader(api.AskOpen, readNothing),
		askLeader(api.AskList, readNothing),
		askLeader(api.AskAbort, readNothing),
		askLeader(api.AskStructured, readNothing),
		askLeader(api.AskExtended, readNothing),
		askLeader(api.AskDisc, readNothing),
		askLeader(api.AskClose, readNothing),
		askLeader(api.AskFlags, readFlags),
		askLeader(api.AskInfo, readInfos),
		askLeader(api.AskGo, readInfos),
		askLeader(api.AskExport, readName),
		askLeader(api.AskListMeta, readQueries),
		askLeader(api.AskSetMeta, readQueries),
		askLeader(api.AskOption, readOption),
		askLeader(api.AskRequest, readRequest),
	}
}

// stepLeader is the leader of a line that is a step of the server.
func stepLeader(k api.StepKind, fields func(*reading)) leader {
	return leader{stepName(k), atLines, atLines, func(g *reading) {
		g.line.Kind, g.line.Step.Kind = api.LineStep, k
		fields(g)
	}}
}

// askLeader is the leader of what a client asks.
func askLeader(k api.AskKind, fields func(*reading)) leader {
	return leader{askName(k), atAsking, atAsking, func(g *reading) {
		g.line.Ask.Kind = k
		fields(g)
	}}
}

// A reading is a text that is being read: the words of one line, what that says, and what those ahead of it have said.
type reading struct {
	*words.Reader
	line   api.ScriptLine
	script api.Script
	place  place
}

// read gives the script that a text says, of whatever length, or a refusal.
func read(text string) (api.Script, error) {
	var g reading
	tooMany := 0 // the line that is one more than may be
	lines := words.Lines(text)
	for i, l := range lines {
		if words.Silent(l) {
			continue
		}
		if !g.take(l) {
			return api.Script{}, &refusal{i + 1, errLine}
		}
		if len(g.script.Lines) > api.MaxScriptLines {
			g.script.Lines = g.script.Lines[:api.MaxScriptLines]
			if tooMany == 0 {
				tooMany = i + 1
			}
		}
	}
	switch {
	case g.place != atLines:
		return api.Script{}, &refusal{len(lines) + 1, errLine}
	case tooMany > 0:
		return api.Script{}, &refusal{tooMany, errLong}
	}
	return g.script, nil
}

// take reads a line that says something, if it may stand here.
func (g *reading) take(l string) bool {
	g.Reader, g.line = words.Read(l), api.ScriptLine{}
	lead := g.lead(g.place)
	if !g.Done() {
		return false
	}
	if g.place == atLines {
		g.script.Lines = append(g.script.Lines, g.line)
	}
	g.place = lead.to
	return true
}

// lead finds the leader that the next word is, among those that may stand at a place, and has it read what stands behind.
func (g *reading) lead(at place) leader {
	word := g.Bare()
	i := slices.IndexFunc(leaders, func(l leader) bool { return l.from == at && l.word == word })
	if i < 0 {
		g.Fail()
		return leader{}
	}
	leaders[i].read(g)
	return leaders[i]
}
