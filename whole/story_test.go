package whole

import (
	"bytes"
	"fmt"
	"testing"

	"spindle/api"
	"spindle/trace"
)

// A key is a thing of a connection: a task by its number, or a request by its cookie.
type key struct {
	conn int
	n    uint64
}

// A due is what a client must hear of a request.
type due struct {
	code    uint32
	data    []byte // of a read
	free    bool   // what it read is not known
	refused bool   // it was refused, with whatever error
}

// A story is what the promises say of a script, line by line.
type story struct {
	t     *testing.T
	what  string
	up    bool
	v     [][]byte            // each export's array
	may   [][]map[string]bool // of each sector, what a crash may leave there
	base  []byte              // what the tracked export was when its marks were cleared
	goes  map[int]int         // of each connection, its export
	whose map[int]int         // of each client, its connection
	own   map[int][]byte      // arrays of connections of the private export
	lost  map[int]bool        // those that are not known any more, since a change of them has failed
	tasks map[key]api.Request
	dues  map[key]due
	lines map[int]*trace.Trace // somebody who stands on each connection's line
	asked map[int]int          // how many requests each connection's client has asked and not heard of
	met   map[string]int
}

func newStory(t *testing.T, met map[string]int) *story {
	y := &story{t: t, up: true, met: met}
	for _, x := range exports {
		y.v = append(y.v, make([]byte, 512*x.Sectors))
		y.may = append(y.may, make([]map[string]bool, x.Sectors))
	}
	y.base = make([]byte, size(tracked))
	y.forget()
	y.allSafe()
	return y
}

// forget: there is no connection any more.
func (y *story) forget() {
	y.goes, y.whose, y.own, y.lost = map[int]int{}, map[int]int{}, map[int][]byte{}, map[int]bool{}
	y.tasks, y.dues = map[key]api.Request{}, map[key]due{}
	y.lines, y.asked = map[int]*trace.Trace{}, map[int]int{}
}

func sector(b []byte, s int) string { return string(b[512*s:][:512]) }

func (y *story) toldSafe(export int, off, n uint64) {
	for s := int(off / 512); n > 0 && s <= int((off+n-1)/512); s++ {
		y.may[export][s] = map[string]bool{sector(y.v[export], s): true}
	}
}

func (y *story) allSafe() {
	for i := range exports {
		y.toldSafe(i, 0, uint64(size(i)))
	}
}

func (y *story) couldBe(export int, b []byte) {
	for s := range y.may[export] {
		y.may[export][s][sector(b, s)] = true
	}
}

// changed does a command to an array of bytes (W1).
func changed(b []byte, q api.Request) []byte {
	out := bytes.Clone(b)
	lo, hi := int(q.Offset), int(q.Offset+q.Length)
	switch q.Type {
	case api.CmdWrite:
		copy(out[lo:hi], q.Data)
	case api.CmdZeroes:
		clear(out[lo:hi])
	case api.CmdTrim:
		if from, to := (lo+511)/512*512, hi/512*512; from < to {
			clear(out[from:to])
		}
	}
	return out
}

// follow follows a line: what came of it, and what the exports are behind it (nothing, if the server is down then).
func (y *story) follow(l api.ScriptLine, x api.Heard, now [][]byte) {
	if l.Kind == api.LineClient && l.Ask.Kind == api.AskRequest {
		if x.Err != api.OK {
			y.t.Fatalf("%s: error %d of a request", y.what, x.Err)
		}
		y.asked[y.whose[l.Who]]++
	}
	for i, s := range x.Steps {
		y.step(l, s, x.Answers[i], now)
	}
	for _, v := range x.Events {
		y.heard(l, v)
	}
	for i := range now {
		if !bytes.Equal(now[i], y.v[i]) {
			y.t.Fatalf("%s: export %d has other bytes than the array (W1)", y.what, i)
		}
	}
}

func (y *story) step(l api.ScriptLine, s api.Step, a api.Answer, now [][]byte) {
	y.listen(s, a)
	if a.Err != api.OK {
		y.met[fmt.Sprintf("step %d, error %d", s.Kind, a.Err)]++
		if s.Kind == api.SClear && a.N == 1 {
			y.base = bytes.Clone(y.v[tracked])
		}
		return
	}
	switch s.Kind {
	case api.SOpen:
		if l.Kind == api.LineClient {
			y.whose[l.Who] = a.Conn
		}
	case api.STake:
		y.took(s.Conn, a.Took)
	case api.SRun:
		y.ran(s.Conn, a, now)
	case api.SClear:
		y.allSafe()
		y.base = bytes.Clone(y.v[tracked])
		y.met["clear"]++
	case api.SCrash:
		y.up = false
		y.forget()
	case api.SStart:
		y.up = true
		y.started(now)
	}
}

// listen stands on the line: what the server says is what the protocol lets it say (W3).
func (y *story) listen(s api.Step, a api.Answer) {
	conn := s.Conn
	if s.Kind == api.SOpen {
		conn = a.Conn
		if a.Err == api.OK {
			y.lines[conn] = trace.New()
		}
	}
	line := y.lines[conn]
	if line == nil {
		return
	}
	if s.Kind == api.SFeed && a.Err == api.OK {
		line.Pass(false, s.Data[:a.N])
	}
	for _, r := range line.Pass(true, a.Out) {
		if r.Kind == api.RecWrong && r.Server {
			y.t.Fatalf("%s: the server says what it may not (W3): % x", y.what, a.Out)
		}
	}
}

func (y *story) took(conn int, x api.Took) {
	if _, known := y.goes[conn]; x.Kind != api.TookRequest || !known {
		return // of a connection without a client nothing is done, nor does anything leave
	}
	q := x.Task.Req
	if x.Refused {
		y.met["refused"]++
		y.dues[key{conn, q.Cookie}] = due{refused: true}
		return
	}
	y.tasks[key{conn, uint64(x.Task.ID)}] = q
}

// ran holds a task that was done against the array (W1, W5).
func (y *story) ran(conn int, a api.Answer, now [][]byte) {
	q, is := y.tasks[key{conn, uint64(a.N)}]
	if !is {
		y.t.Fatalf("%s: a task was done that nobody asked, or twice (W6)", y.what)
	}
	delete(y.tasks, key{conn, uint64(a.N)})
	export, is := y.goes[conn]
	if !is {
		y.t.Fatalf("%s: nobody knows the connection %d", y.what, conn)
	}
	y.met[fmt.Sprintf("command %d of export %d, code %d", q.Type, export, a.Code)]++
	d := due{code: a.Code}
	if export == private {
		y.ranOwn(conn, q, &d)
	} else {
		y.ranShared(export, q, &d, now)
	}
	y.dues[key{conn, q.Cookie}] = d
}

func (y *story) ranOwn(conn int, q api.Request, d *due) {
	if y.own[conn] == nil {
		y.own[conn] = bytes.Clone(y.v[private])
	}
	if d.code != 0 {
		y.lost[conn] = true
		return
	}
	if q.Type == api.CmdRead {
		d.data, d.free = y.own[conn][q.Offset:][:q.Length], y.lost[conn]
	}
	y.own[conn] = changed(y.own[conn], q)
}

func (y *story) ranShared(export int, q api.Request, d *due, now [][]byte) {
	before := y.v[export]
	made := changed(before, q)
	if q.Type != api.CmdFlush {
		y.couldBe(export, made)
	}
	if d.code != 0 {
		if now == nil {
			y.t.Fatalf("%s: a command failed in a line of many", y.what)
		}
		for s := range exports[export].Sectors {
			if is := sector(now[export], s); is != sector(before, s) && is != sector(made, s) {
				y.t.Fatalf("%s: sector %d behind a command that failed (W5)", y.what, s)
			}
		}
		y.v[export] = bytes.Clone(now[export])
		return
	}
	y.v[export] = made
	switch {
	case q.Type == api.CmdRead:
		d.data = before[q.Offset:][:q.Length]
	case q.Type == api.CmdFlush:
		y.allSafe()
	case q.Flags&api.FlagFua != 0:
		y.toldSafe(export, q.Offset, q.Length)
	}
}

// started looks at what a crash has left (W2).
func (y *story) started(now [][]byte) {
	y.mayBe(now)
	for i := range exports {
		y.v[i] = bytes.Clone(now[i])
	}
	y.allSafe()
}

func (y *story) mayBe(now [][]byte) {
	if len(now) != len(exports) {
		y.t.Fatalf("%s: the server does not start (W2)", y.what)
	}
	for i := range exports {
		for s := range y.may[i] {
			if !y.may[i][s][sector(now[i], s)] {
				y.t.Fatalf("%s: behind a crash sector %d of export %d has what it may not have (W2)", y.what, s, i)
			}
			if sector(now[i], s) != sector(y.v[i], s) {
				y.met["taken back"]++
			}
		}
	}
}

// heard holds what a client hears against what it must hear (W1, W6, W7).
func (y *story) heard(l api.ScriptLine, v api.Event) {
	switch v.Kind {
	case api.EvBroken:
		y.t.Fatalf("%s: a client hears that its server is broken (W7)", y.what)
	case api.EvStart:
		for i, x := range exports {
			if int(v.Info.Size) == 512*x.Sectors {
				y.goes[y.whose[l.Who]] = i
			}
		}
	case api.EvDone:
		y.answered(l, v)
	}
}

func (y *story) answered(l api.ScriptLine, v api.Event) {
	conn := l.Step.Conn
	if l.Kind != api.LineStep {
		conn = y.whose[l.Who]
	}
	d, is := y.dues[key{conn, v.Cookie}]
	delete(y.dues, key{conn, v.Cookie})
	y.asked[conn]--
	switch {
	case !is:
		y.t.Fatalf("%s: a request is answered that was not done, or twice (W6)", y.what)
	case d.refused:
		if v.Code == 0 {
			y.t.Fatalf("%s: a request that was refused went well (W4)", y.what)
		}
	case v.Code != d.code || !d.free && !bytes.Equal(v.Data, d.data):
		y.t.Fatalf("%s: code %d, want %d, or other bytes than the array's (W1)", y.what, v.Code, d.code)
	}
	y.met["answered"]++
}
