// Package whole holds what the whole promises (W1 to W11 of DOC.md) against scripts over servers and clients, with a crash behind each of their lines.
package whole

import (
	"spindle/api"
)

// dice gives numbers that look as if thrown, the same ones in each run.
type dice uint64

func (d *dice) below(n int) int {
	*d = *d*6364136223846793005 + 1442695040888963407
	return int(uint64(*d)>>33) % n
}

func (d *dice) bool() bool { return d.below(2) == 1 }

// pick throws for one of a list.
func pick[T any](d *dice, list ...T) T { return list[d.below(len(list))] }

// The exports: a tracked one, a plain one, a private one, one that may only be read.
var exports = []api.Export{
	{Name: "t", Sectors: 5, Min: 1, Pref: 512, Tracked: true},
	{Name: "v", Sectors: 4, Min: 1, Pref: 512},
	{Name: "p", Sectors: 3, Min: 1, Pref: 512, Private: true},
	{Name: "r", Sectors: 2, Min: 512, Pref: 512, ReadOnly: true},
}

const (
	tracked = 0
	private = 2
)

// Who is who among the clients: those that work, those that look at the exports that are not private, and those that look behind a crash.
const (
	workers      = 3
	watchers     = 3
	lateWatchers = 6
)

// watched are the exports that the watchers look at.
var watched = [3]int{0, 1, 3}

func size(export int) int { return 512 * exports[export].Sectors }

// A thrower throws a script.
type thrower struct {
	dice
	s      api.Script
	faults bool
	opened int   // how many connections there were
	conns  []int // of the workers
	goes   []int // to which exports
	waits  []int // how many requests of each wait to be done, more or less
	ready  []int // how many answers wait to leave
	from   int   // the line from which on crashes are tried
}

func (r *thrower) add(l ...api.ScriptLine) { r.s.Lines = append(r.s.Lines, l...) }

func stepOf(x api.Step) api.ScriptLine { return api.ScriptLine{Kind: api.LineStep, Step: x} }

func askOf(who int, q api.Ask) api.ScriptLine {
	return api.ScriptLine{Kind: api.LineClient, Who: who, Ask: q}
}

func moveOf(who int) api.ScriptLine { return api.ScriptLine{Kind: api.LineMove, Who: who} }

// joins are the lines by which a client comes and begins with an export. form is 0 for simple answers, api.OptStructured or api.OptExtended.
func joins(who, export int, form api.AskKind) []api.ScriptLine {
	out := []api.ScriptLine{
		askOf(who, api.Ask{Kind: api.AskClose}),
		askOf(who, api.Ask{Kind: api.AskOpen}),
		askOf(who, api.Ask{Kind: api.AskFlags, Flags: 3}),
	}
	name := exports[export].Name
	if form != 0 {
		queries := []string{"base:allocation", "spindle:unsaved", "spindle:dirty"}
		out = append(out, askOf(who, api.Ask{Kind: form}), moveOf(who), askOf(who, api.Ask{Kind: api.AskSetMeta, Name: name, Queries: queries}), moveOf(who))
	}
	return append(out, askOf(who, api.Ask{Kind: api.AskGo, Name: name, Infos: []uint16{api.InfoBlock}}), moveOf(who))
}

// begin lets all clients come.
func (r *thrower) begin() {
	r.conns, r.goes = nil, nil
	r.waits, r.ready = make([]int, workers), make([]int, workers)
	for who := range workers {
		export := [workers]int{tracked, 1, pick(&r.dice, tracked, private, private, 3)}[who]
		r.add(joins(who, export, pick(&r.dice, 0, api.AskStructured, api.AskExtended))...)
		r.conns, r.goes = append(r.conns, r.opened), append(r.goes, export)
		r.opened++
	}
	for i, export := range watched {
		r.add(joins(watchers+i, export, api.AskExtended)...)
		r.opened++
	}
	r.add(stepOf(api.Step{Kind: api.SOpen})) // somebody of whom nobody knows what they will say
	r.opened++
}

func throwScript(seed int, faults bool) *thrower {
	r := &thrower{dice: dice(seed), faults: faults}
	r.s = api.Script{
		Sectors: 64,
		Label:   api.Label{Exports: exports},
		Config:  api.Config{Lines: 1 + r.below(7), Conns: 8, Limits: api.Limits{Payload: 1536, Option: 256, Flight: 1 + r.below(4)}},
	}
	r.begin()
	r.from = len(r.s.Lines)
	for range 70 {
		r.line()
	}
	if !faults {
		for who := range workers {
			r.add(moveOf(who))
		}
	}
	return r
}

func (r *thrower) line() {
	who := r.below(workers)
	conn := r.conns[who]
	switch r.below(24) {
	case 0, 1, 2, 3, 4, 5, 6:
		r.add(askOf(who, api.Ask{Kind: api.AskRequest, Req: r.request(r.goes[who])}), api.ScriptLine{Kind: api.LineSay, Who: who, N: 5000}, stepOf(api.Step{Kind: api.STake, Conn: conn}))
		r.waits[who]++
	case 7:
		r.add(askOf(who, api.Ask{Kind: api.AskRequest, Req: r.request(r.goes[who])}), api.ScriptLine{Kind: api.LineSay, Who: who, N: r.below(80)})
	case 8:
		r.add(stepOf(api.Step{Kind: api.STake, Conn: conn}))
	case 9, 10, 11, 12, 13, 14:
		if who = r.one(r.waits, who); r.waits[who] > 0 {
			r.waits[who]--
			r.ready[who]++
		}
		r.add(stepOf(api.Step{Kind: api.SRun, Conn: r.conns[who], N: pick(&r.dice, 0, 0, 0, 1)}))
	case 15, 16, 17, 18:
		if who = r.one(r.ready, who); r.ready[who] > 0 {
			r.ready[who]--
		}
		r.add(stepOf(api.Step{Kind: api.SSend, Conn: r.conns[who], N: pick(&r.dice, 0, 0, 0, 1)}), stepOf(api.Step{Kind: api.STake, Conn: r.conns[who]}))
	case 19:
		r.add(stepOf(api.Step{Kind: api.SWrite}))
	case 20:
		r.add(stepOf(api.Step{Kind: api.SClear, N: pick(&r.dice, tracked, tracked, tracked, 1)}))
	case 21:
		r.add(stepOf(api.Step{Kind: api.SFeed, Conn: r.opened - 1, Data: r.chatter()}), stepOf(api.Step{Kind: api.STake, Conn: r.opened - 1}))
	case 22:
		if r.faults {
			r.add(stepOf(api.Step{Kind: api.SFault, Fault: r.fault()}))
		}
	case 23:
		if r.below(5) == 0 {
			r.add(stepOf(api.Step{Kind: api.SCrash, Keep: r.keep()}), stepOf(api.Step{Kind: api.SStart}))
			r.begin()
		}
	}
}

// one throws for a worker who has something; any, if none has.
func (r *thrower) one(has []int, who int) int {
	for range workers {
		if has[who] > 0 {
			return who
		}
		who = (who + 1) % workers
	}
	return who
}

// keep throws what a crash keeps.
func (r *thrower) keep() []bool {
	out := make([]bool, r.below(12))
	for i := range out {
		out[i] = r.bool()
	}
	return out
}

func (r *thrower) fault() api.Fault {
	return api.Fault{
		Kind:   pick(&r.dice, api.FaultRead, api.FaultWrite, api.FaultWrite, api.FaultBarrier),
		Sector: pick(&r.dice, -1, -1, 42+r.below(20)),
		After:  r.below(3),
		Times:  1 + r.below(2),
		Land:   r.bool(),
	}
}

// chatter throws bytes that a client might say, or not.
func (r *thrower) chatter() []byte {
	begun := []byte{0, 0, 0, 3}
	option := []byte{0x49, 0x48, 0x41, 0x56, 0x45, 0x4f, 0x50, 0x54, 0, 0, 0, byte(r.below(13)), 0, 0, 0, 1, 't'}
	started := []byte{0x49, 0x48, 0x41, 0x56, 0x45, 0x4f, 0x50, 0x54, 0, 0, 0, 1, 0, 0, 0, 1, 'v'}
	read := append([]byte{0x25, 0x60, 0x95, 0x13, 0, 0, 0, byte(r.below(9))}, make([]byte, 20)...)
	read[26] = byte(r.below(4))
	b := pick(&r.dice, begun, begun, option, started, read, []byte("what nobody says"))
	if r.below(3) == 0 {
		b[r.below(len(b))] ^= byte(1 << r.below(8))
	}
	return b
}

// request throws what is asked of an export.
func (r *thrower) request(export int) api.Request {
	size := size(export)
	off := r.below(size)
	if r.bool() {
		off &^= 511
	}
	n := 1 + r.below(min(size-off, 1536))
	if r.bool() && n >= 512 {
		n &^= 511
	}
	if exports[export].Min == 512 {
		off, n = off&^511, 512
	}
	q := api.Request{Type: uint16(pick(&r.dice, api.CmdRead, api.CmdRead, api.CmdWrite, api.CmdWrite, api.CmdWrite, api.CmdZeroes, api.CmdTrim, api.CmdFlush, api.CmdCache, api.CmdStatus)), Offset: uint64(off), Length: uint64(n)}
	switch q.Type {
	case api.CmdFlush:
		q.Offset, q.Length = 0, 0
	case api.CmdWrite:
		q.Data = make([]byte, n)
		for i := range q.Data {
			q.Data[i] = byte(1 + r.below(255))
		}
		q.Flags = uint16(pick(&r.dice, 0, 0, 0, api.FlagFua))
	case api.CmdZeroes:
		q.Flags = uint16(pick(&r.dice, 0, 0, api.FlagFua, api.FlagNoHole, api.FlagFast))
	case api.CmdTrim:
		q.Flags = uint16(pick(&r.dice, 0, 0, api.FlagFua))
	case api.CmdRead:
		q.Flags = uint16(pick(&r.dice, 0, 0, 0, api.FlagDF))
	}
	if r.below(25) == 0 {
		q.Offset = uint64(size) // out of bounds
	}
	return q
}
