package server_test

import (
	"fmt"
	"testing"

	"spindle/api"
)

// thrownFlags throws for a command's flags, mostly for those that it may have.
func thrownFlags(d *dice, command uint16) uint16 {
	if d.below(30) == 0 {
		return uint16(1 << d.below(8))
	}
	switch command {
	case api.CmdRead:
		return pick[uint16](d, 0, 0, 0, api.FlagDF, api.FlagFua)
	case api.CmdZeroes:
		return pick[uint16](d, 0, 0, api.FlagNoHole, api.FlagFua, api.FlagFua|api.FlagNoHole, api.FlagFast)
	case api.CmdStatus:
		return pick[uint16](d, 0, api.FlagOne)
	}
	return pick[uint16](d, 0, 0, api.FlagFua)
}

// thrownRequest throws for a request, mostly for one that the rules take, or nearly so.
func thrownRequest(d *dice, s api.Session, e api.Export) api.Request {
	size := e.Sectors * 512
	q := api.Request{
		Type:   pick[uint16](d, 0, 0, 0, 0, 1, 1, 1, 1, 1, 3, 4, 4, 5, 6, 6, 6, 7, 7, 8),
		Cookie: pick(d, 0, max64, uint64(d.below(1000))),
		Offset: uint64(pick(d, 0, 512*d.below(e.Sectors), d.below(size), size-1)),
		Length: uint64(pick(d, 1, 3, 512, 512, 1024, 1+d.below(1600), size)),
	}
	q.Flags = thrownFlags(d, q.Type)
	if d.below(8) > 0 {
		q.Length = min(q.Length, uint64(size)-q.Offset)
	}
	if (e.Min > 1 || q.Flags&api.FlagFast != 0) && d.below(8) > 0 {
		q.Offset, q.Length = q.Offset/512*512, max(q.Length/512*512, 512)
	}
	if q.Type == api.CmdFlush && d.below(8) > 0 {
		q.Offset, q.Length = 0, 0
	}
	if q.Type == api.CmdWrite && s.Extended && d.below(10) > 0 {
		q.Flags |= api.FlagPayload
	}
	if q.Type == api.CmdWrite && !s.Extended || s.Extended && q.Flags&api.FlagPayload != 0 {
		q.Length = min(q.Length, 2000)
		q.Data = of(int(q.Length), byte(1+d.below(255)))
	}
	return q
}

// thrownMessage throws for what a client may say next, by how its connection stands.
func thrownMessage(d *dice, look api.ConnLook, exports []api.Export) []byte {
	e := exports[d.below(len(exports))]
	switch {
	case d.below(150) == 0:
		return many(d.below(80))
	case look.Phase == api.PhaseFlags:
		return flagBytes(pick[uint32](d, 3, 3, 3, 3, 3, 3, 3, 1, 0, 4))
	case look.Phase == api.PhaseOptions:
		f := pick(d, forms()...)
		list := append(f.asks(e.Name), goTo(e.Name), option(api.OptList))
		if d.below(20) == 0 {
			list = append(list, option(api.OptAbort), option(api.OptExportName, []byte(e.Name)...), goTo("nobody"))
		}
		if d.bool() {
			return list[0]
		}
		return pick(d, list...)
	case d.below(40) == 0:
		return requestBytes(api.Request{Type: api.CmdDisc}, look.Session.Extended)
	}
	return requestBytes(thrownRequest(d, look.Session, exports[look.Session.Index]), look.Session.Extended)
}

// thrownFault throws for a fault, mostly for one that may be.
func thrownFault(d *dice, sectors int) api.Fault {
	if d.below(15) == 0 {
		return api.Fault{Kind: d.below(6) - 1, Sector: d.below(sectors+4) - 2, After: d.below(3) - 1, Times: d.below(3) - 1}
	}
	return api.Fault{Kind: 1 + d.below(3), Sector: pick(d, -1, -1, 42+d.below(sectors-42)), After: d.below(4), Times: 1 + d.below(3), Land: d.bool()}
}

// A script throws for steps, one behind the other; said is what each client has to say and could not yet, for want of room.
type script struct {
	d       *dice
	exports []api.Export
	sectors int
	calm    bool // without faults and crashes
	said    map[int][]byte
}

// next throws for a step of a server that stands like this.
func (x *script) next(look api.ServerLook) api.Step {
	d := x.d
	if !look.Up && d.below(4) > 0 {
		return pick(d, rises(), rises(), api.Step{Kind: api.SFault, Fault: api.Fault{Kind: api.FaultRead, Sector: -1, After: d.below(50), Times: 1}})
	}
	c := api.Served{Conn: d.below(look.Next+3) - 1}
	if len(look.Conns) > 0 && d.below(40) > 0 {
		c = look.Conns[d.below(len(look.Conns))]
	}
	switch n := d.below(200); {
	case n < 6 || len(look.Conns) == 0 && n < 100:
		return opens()
	case n < 160 && len(look.Conns) > 0:
		return x.useful(c)
	case n < 164:
		return x.feed(c)
	case n < 168:
		return takes(c.Conn)
	case n < 172:
		return runs(c.Conn, d.below(5)-1)
	case n < 176:
		return sends(c.Conn, d.below(5)-1)
	case n < 182:
		return writes()
	case n < 185:
		return clears(pick(d, trackAt, d.below(len(x.exports)+2)-1))
	case n == 185:
		return shuts(c.Conn)
	case n == 186:
		return api.Step{Kind: pick(d, noKinds()...), Conn: c.Conn}
	case n == 187:
		return rises()
	case x.calm:
		return takes(c.Conn)
	case n < 196:
		return api.Step{Kind: api.SFault, Fault: thrownFault(d, x.sectors)}
	case n < 197:
		return falls(thrownKeep(d, look.Queue)...)
	}
	return writes()
}

// useful throws for a step that does something with a connection.
func (x *script) useful(c api.Served) api.Step {
	list := []api.Step{}
	if c.Look.Inbox == 0 || len(x.said[c.Conn]) > 0 {
		list = append(list, x.feed(c))
	}
	if c.Look.Inbox > 0 {
		list = append(list, takes(c.Conn))
	}
	if n := len(c.Look.Pending); n > 0 {
		list = append(list, runs(c.Conn, x.d.below(n)))
	}
	if n := len(c.Look.Ready); n > 0 {
		list = append(list, sends(c.Conn, x.d.below(n)))
	}
	return pick(x.d, list...)
}

func thrownKeep(d *dice, queue int) []bool {
	keep := make([]bool, d.below(queue+3))
	for i := range keep {
		keep[i] = d.bool()
	}
	return keep
}

// feed throws for how many bytes of what a client says arrive.
func (x *script) feed(c api.Served) api.Step {
	if len(x.said[c.Conn]) == 0 {
		x.said[c.Conn] = thrownMessage(x.d, c.Look, x.exports)
	}
	b := x.said[c.Conn]
	return feeds(c.Conn, b[:min(len(b), pick(x.d, 1, 28, len(b), len(b), len(b), len(b)))])
}

// did tells what a step that was thrown came to. A client that comes mostly knows what it wants to say.
func (x *script) did(step api.Step, a api.Answer) {
	if step.Kind == api.SFeed && a.Err == api.OK {
		x.said[step.Conn] = x.said[step.Conn][a.N:]
	}
	if step.Kind == api.SOpen && a.Err == api.OK && x.d.below(5) > 0 {
		x.said[a.Conn] = flagBytes(3)
		for _, ask := range pick(x.d, forms()...).asks(x.exports[x.d.below(len(x.exports))].Name) {
			x.said[a.Conn] = append(x.said[a.Conn], ask...)
		}
	}
}

func newScript(d *dice, exports []api.Export, sectors int) *script {
	return &script{d: d, exports: exports, sectors: sectors, said: map[int][]byte{}}
}

// thrownConfig throws for a configuration.
func thrownConfig(d *dice) api.Config {
	return api.Config{Lines: pick(d, 1, 2, 3, 5, 16, 64), Conns: pick(d, 1, 2, 4), Limits: api.Limits{Payload: pick[uint32](d, 2048, 4608), Option: pick[uint32](d, 100, 400), Flight: pick(d, 1, 2, 4)}}
}

// P15.3 to P15.11: long scripts of steps in any order against the plain reading; all that a step can come to is met.
func TestThrownScripts(t *testing.T) {
	d := dice(15)
	met := map[string]int{}
	for run := range 50 {
		x := newPair(t, filled(t), thrownConfig(&d))
		y := newScript(&d, several(), diskSectors)
		for n := range 400 {
			step := y.next(x.p.look())
			x.what = fmt.Sprintf("run %d, step %d", run, n)
			a := x.step(step)
			y.did(step, a)
			met[fmt.Sprint("kind ", step.Kind, ", error ", a.Err)]++
			met[fmt.Sprint("kind ", step.Kind, ", code ", a.Code)]++
			met[fmt.Sprint("kind ", step.Kind, ", took ", a.Took.Kind)]++
		}
	}
	for k := api.SOpen; k <= api.SClear; k++ {
		if met[fmt.Sprint("kind ", k, ", error 0")] < 20 {
			t.Errorf("kind %d went well only %d times", k, met[fmt.Sprint("kind ", k, ", error 0")])
		}
	}
	for _, what := range []string{"kind 4, code 5", "kind 4, code 0", "kind 3, took 3", "kind 3, took 4", "kind 7, error 33", "kind 10, error 33", "kind 10, error 153", "kind 11, error 33", "kind 11, error 151", "kind 4, error 151", "kind 5, error 151", "kind 2, error 154", "kind 1, error 155", "kind 8, error 34"} {
		if met[what] < 3 {
			t.Errorf("%s: only %d times", what, met[what])
		}
	}
}

// R5, R9: several servers in turns, with disks and configurations of their own: none knows of another.
func TestInTurns(t *testing.T) {
	d := dice(16)
	var pairs []*pair
	var scripts []*script
	for i := range 4 {
		image, exports := filled(t), several()
		if i == 3 {
			image, exports = formatted(t, 60, one()), one()
		}
		pairs = append(pairs, newPair(t, image, thrownConfig(&d)))
		scripts = append(scripts, newScript(&d, exports, len(image)/512))
	}
	for n := range 3000 {
		i := d.below(len(pairs))
		step := scripts[i].next(pairs[i].p.look())
		pairs[i].what = fmt.Sprintf("server %d, step %d", i, n)
		scripts[i].did(step, pairs[i].step(step))
	}
	for _, x := range pairs {
		x.look()
	}
}
