package engine

import (
	"strings"

	"spindle/api"
)

// What the readers of lines and of askings take up behind their words. Each field has its word, so they are taken in the words' order.

func readNothing(*reading) {}

func readDisk(g *reading) { g.script.Sectors = g.Int() }

func readExport(g *reading) {
	x := g.Export()
	if len(g.script.Label.Exports) == api.MaxExports {
		g.Fail()
		return
	}
	g.script.Label.Exports = append(g.script.Label.Exports, x)
}

func readConfig(g *reading) {
	c := &g.script.Config
	c.Lines = g.Int()
	c.Conns = g.Int()
	c.Limits.Payload = g.U32()
	c.Limits.Option = g.U32()
	c.Limits.Flight = g.Int()
}

func readConn(g *reading) { g.line.Step.Conn = g.Int() }

func readN(g *reading) { g.line.Step.N = g.Int() }

func readConnAndN(g *reading) {
	readConn(g)
	readN(g)
}

func readFeed(g *reading) {
	readConn(g)
	g.line.Step.Data = g.Bytes()
}

// What stands for the sector of a fault of any sector, for the places of a crash that has none, and behind a fault that lands.
const (
	anySector = "any"
	noPlaces  = "-"
	lands     = "land"
)

func readFault(g *reading) {
	f := &g.line.Step.Fault
	f.Kind = g.faultKind()
	f.Sector = g.sector()
	f.After = g.Int()
	f.Times = g.Int()
	f.Land = g.Match(lands)
}

func (g *reading) faultKind() int {
	name := g.Bare()
	for k := api.FaultRead; k <= api.FaultBarrier; k++ {
		if faultName(k) == name {
			return k
		}
	}
	g.Fail()
	return 0
}

func (g *reading) sector() int {
	if g.Match(anySector) {
		return -1
	}
	return g.Int()
}

func readCrash(g *reading) {
	if g.Match(noPlaces) {
		return
	}
	keep := g.Bare()
	if strings.Trim(keep, "01") != "" {
		g.Fail()
	}
	for i := range len(keep) {
		g.line.Step.Keep = append(g.line.Step.Keep, keep[i] == '1')
	}
}

func readClient(g *reading) {
	g.line.Kind = api.LineClient
	g.line.Who = g.Int()
	g.lead(atAsking)
}

func readSay(g *reading) {
	g.line.Kind = api.LineSay
	g.line.Who = g.Int()
	g.line.N = g.Int()
}

func readMove(g *reading) {
	g.line.Kind = api.LineMove
	g.line.Who = g.Int()
}

func readFlags(g *reading) { g.line.Ask.Flags = g.U32() }

func readName(g *reading) { g.line.Ask.Name = g.Quoted() }

func readInfos(g *reading) {
	readName(g)
	for g.More() {
		g.line.Ask.Infos = append(g.line.Ask.Infos, g.U16())
	}
}

func readQueries(g *reading) {
	readName(g)
	for g.More() {
		g.line.Ask.Queries = append(g.line.Ask.Queries, g.Quoted())
	}
}

func readOption(g *reading) {
	g.line.Ask.Code = g.U32()
	g.line.Ask.Data = g.Bytes()
}

func readRequest(g *reading) {
	q := &g.line.Ask.Req
	q.Type = g.U16()
	q.Flags = g.U16()
	q.Offset = g.U64()
	q.Length = g.U64()
	if q.Type == api.CmdWrite {
		q.Data = g.Bytes()
	}
}
