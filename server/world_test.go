package server_test

import (
	"bytes"
	"fmt"
	"testing"

	"spindle/api"
	"spindle/server"
)

// A task of the world is one of a connection.
type taskOf struct{ conn, id int }

// A due is what is to be said to a request that was done, or refused.
type due struct {
	code uint32
	data []byte // of a read
	free bool   // what was read is not known: the overlay has failed
}

// A world is a server, and what the promises W1 to W5 say of it: each export is one array of bytes, and of each sector there are values that it may have behind a crash. It knows nothing of sectors' places, caches and queues.
type world struct {
	t       *testing.T
	s       *server.Server
	what    string
	exports []api.Export
	payload uint32
	arrays  [][]byte
	may     [][]map[string]bool
	own     map[int][]byte // of connections of private exports, from their first task on
	lost    map[int]bool   // of these the ones that have failed
	asked   map[taskOf]api.Request
	dues    map[taskOf]due
	met     map[string]int
}

func newWorld(t *testing.T, image []byte, exports []api.Export, c api.Config) *world {
	t.Helper()
	w := &world{t: t, s: started(t, image, c), exports: exports, payload: c.Limits.Payload, met: map[string]int{}}
	w.forget()
	for i := range exports {
		w.arrays = append(w.arrays, nil)
		w.may = append(w.may, make([]map[string]bool, exports[i].Sectors))
	}
	w.restart()
	return w
}

// forget: no connection is there any more.
func (w *world) forget() {
	w.own, w.lost, w.asked, w.dues = map[int][]byte{}, map[int]bool{}, map[taskOf]api.Request{}, map[taskOf]due{}
}

// restart takes what stands there as what is known to be safe.
func (w *world) restart() {
	for i := range w.exports {
		w.arrays[i] = peeked(w.t, w.s, i)
		w.toldSafe(i, 0, uint64(len(w.arrays[i])))
	}
}

func sectorOf(array []byte, s int) string { return string(array[512*s:][:512]) }

// toldSafe: the sectors that a range touches were told safe.
func (w *world) toldSafe(export int, off, n uint64) {
	for s := int(off / 512); n > 0 && s <= int((off+n-1)/512); s++ {
		w.may[export][s] = map[string]bool{sectorOf(w.arrays[export], s): true}
	}
}

// couldBe: an array's sectors are values that these may have behind a crash.
func (w *world) couldBe(export int, array []byte) {
	for s := range w.may[export] {
		w.may[export][s][sectorOf(array, s)] = true
	}
}

// step does a step, and holds it against the promises.
func (w *world) step(x api.Step) api.Answer {
	w.t.Helper()
	before := w.standing()
	a := w.s.Step(x)
	switch {
	case a.Err != api.OK:
		w.met[fmt.Sprint("error ", a.Err)]++
	case x.Kind == api.STake:
		w.took(x.Conn, a)
	case x.Kind == api.SRun:
		w.ran(x.Conn, a, before)
	case x.Kind == api.SSend:
		w.sent(x.Conn, a, before)
	case x.Kind == api.SCrash:
		w.forget()
	case x.Kind == api.SStart:
		w.behindCrash()
		w.restart()
	}
	if x.Kind == api.SClear && a.Err == api.OK {
		w.allSafe()
	}
	w.wantArrays()
	if a.Err == api.OK && x.Kind >= api.SOpen && x.Kind <= api.SShut && x.Kind != api.SRun {
		w.wantOthers(x, a, before)
	}
	if w.t.Failed() {
		w.t.FailNow()
	}
	return a
}

// standing is how the server stands; what its exports have the world knows.
func (w *world) standing() state {
	x := state{look: w.s.Look(), image: w.s.Image(), queue: w.s.Queue(), peeks: [][]byte{nil}}
	x.peeks = append(x.peeks, w.arrays...)
	return x
}

func (w *world) allSafe() {
	for i := range w.exports {
		w.toldSafe(i, 0, uint64(len(w.arrays[i])))
	}
}

// took hears what is said to an option, and remembers a request (W3, W4).
func (w *world) took(c int, a api.Answer) {
	w.t.Helper()
	w.met[fmt.Sprint("took ", a.Took.Kind)]++
	if a.Took.Kind == api.TookRequest {
		w.asked[taskOf{c, a.Took.Task.ID}] = a.Took.Task.Req
		if a.Took.Refused {
			w.dues[taskOf{c, a.Took.Task.ID}] = due{code: w.refusal(c, a.Took.Task.Req)}
		}
	}
	if a.Took.Code != 0 {
		wantReplies(w.t, w.what, a)
	} else {
		want(w.t, w.what+": said to what is no option", len(a.Out), 0)
	}
}

// wantReplies looks that what is said to an option is what may be said to it: answers of its kind, and a last one.
func wantReplies(t *testing.T, what string, a api.Answer) {
	t.Helper()
	if a.Took.Code == api.OptExportName {
		want(t, what+": EXPORT_NAME", len(a.Out) == 10 || len(a.Out) == 134 || len(a.Out) == 0 && a.Took.Kind == api.TookEnd, true)
		return
	}
	if len(a.Out) == 0 && a.Took.Kind == api.TookEnd {
		return
	}
	x := &ear{t, a.Out}
	for {
		want(t, what+": the magic", x.u64(), 0x0003e889045565a9)
		want(t, what+": the option", x.u32(), a.Took.Code)
		kind := x.u32()
		x.cut(uint64(x.u32()))
		if kind == api.RepAck || kind >= api.RepUnsup {
			break
		}
	}
	want(t, what+": bytes behind the last answer", len(x.rest), 0)
}

// session tells what a connection has agreed upon.
func session(s *server.Server, c int) api.Session {
	look, _ := served(s, c)
	return look.Session
}

// ran holds a command that was done against the array (W1, W5).
func (w *world) ran(c int, a api.Answer, before state) {
	w.t.Helper()
	i := session(w.s, c).Index
	q := w.asked[taskOf{c, a.N}]
	w.met[fmt.Sprint("export ", i, ", command ", q.Type, ", code ", a.Code)]++
	if w.exports[i].Private {
		w.ranOwn(c, i, q, a)
		return
	}
	array := w.arrays[i]
	made := changed(array, q)
	w.couldBe(i, made)
	w.dues[taskOf{c, a.N}] = due{code: a.Code}
	if a.Code != 0 {
		want(w.t, w.what+": the code", a.Code, api.EIO)
		wantHalf(w.t, w.what, w.s, before, q, w.exports[i].Name)
		w.arrays[i] = peeked(w.t, w.s, i)
		w.couldBe(i, w.arrays[i])
		return
	}
	w.arrays[i] = made
	if q.Type == api.CmdRead {
		w.dues[taskOf{c, a.N}] = due{data: bytes.Clone(array[q.Offset:][:q.Length])}
	}
	if q.Type == api.CmdFlush {
		w.allSafe()
	}
	if q.Flags&api.FlagFua != 0 && (q.Type == api.CmdWrite || q.Type == api.CmdTrim || q.Type == api.CmdZeroes) {
		w.toldSafe(i, q.Offset, q.Length)
	}
}

// ranOwn does the same of a private export: the array is the connection's own, which begins with the export's at its first task.
func (w *world) ranOwn(c, export int, q api.Request, a api.Answer) {
	w.t.Helper()
	if w.own[c] == nil {
		w.own[c] = bytes.Clone(w.arrays[export])
	}
	w.dues[taskOf{c, a.N}] = due{code: a.Code}
	if a.Code != 0 {
		want(w.t, w.what+": the code", a.Code, api.EIO)
		w.lost[c] = w.lost[c] || q.Type == api.CmdWrite || q.Type == api.CmdZeroes || q.Type == api.CmdTrim
		return
	}
	if q.Type == api.CmdRead {
		w.dues[taskOf{c, a.N}] = due{data: bytes.Clone(w.own[c][q.Offset:][:q.Length]), free: w.lost[c]}
	}
	w.own[c] = changed(w.own[c], q)
}

// sent hears an answer, which must be one whole one to a request that was not answered (W3, W6).
func (w *world) sent(c int, a api.Answer, before state) {
	w.t.Helper()
	task := taskOf{c, a.N}
	q, there := w.asked[task]
	want(w.t, w.what+": it was asked, and not answered", there, true)
	d, there := w.dues[task]
	want(w.t, w.what+": it was done, or refused", there, true)
	var s api.Session
	for _, x := range before.look.Conns {
		if x.Conn == c {
			s = x.Look.Session
		}
	}
	h := hear(w.t, s, q, a.Out)
	want(w.t, w.what+": the code that is said", h.code, d.code)
	if !d.free {
		wantBytes(w.t, w.what+": what was read", h.data, d.data)
	}
	delete(w.asked, task)
	delete(w.dues, task)
}

// behindCrash looks at each sector: it has one of the values that it may have (W2).
func (w *world) behindCrash() {
	w.t.Helper()
	w.met["start"]++
	for i := range w.exports {
		b := peeked(w.t, w.s, i)
		for s := range w.may[i] {
			if !w.may[i][s][sectorOf(b, s)] {
				w.t.Fatalf("%s: behind a crash sector %d of export %d has what it may not have", w.what, s, i)
			}
			if sectorOf(b, s) != sectorOf(w.arrays[i], s) {
				w.met["taken back"]++
			}
		}
	}
}

// wantArrays looks that each export is what the commands made of it (W1).
func (w *world) wantArrays() {
	w.t.Helper()
	for i := range w.exports {
		if w.s.Up() {
			wantBytes(w.t, fmt.Sprint(w.what, ": export ", i), peeked(w.t, w.s, i), w.arrays[i])
		}
	}
}

// wantOthers looks that a step that does no task has changed no connection but its own, and neither the cache nor the disk (W3, W4).
func (w *world) wantOthers(x api.Step, a api.Answer, before state) {
	w.t.Helper()
	now := w.standing()
	number := x.Conn
	if x.Kind == api.SOpen {
		number = a.Conn
	}
	others := func(look api.ServerLook) map[int]string {
		out := map[int]string{}
		for _, c := range look.Conns {
			if c.Conn != number {
				out[c.Conn] = told(c.Look)
			}
		}
		return out
	}
	wantSame(w.t, w.what+": the others", others(now.look), others(before.look))
	wantSame(w.t, w.what+": the lines", now.look.Lines, before.look.Lines)
	wantBytes(w.t, w.what+": the disk", now.image, before.image)
	wantQueue(w.t, w.what, now.queue, before.queue)
	if _, there := served(w.s, number); !there {
		w.met["ended"]++
		delete(w.own, number)
		for task := range w.asked {
			if task.conn == number {
				delete(w.asked, task)
				delete(w.dues, task)
			}
		}
	}
}

// refusal is the error with which a connection's request is to be refused (W4).
func (w *world) refusal(c int, q api.Request) uint32 {
	x := session(w.s, c)
	return refusal(w.exports[x.Index], x, w.payload, q)
}

// W1, W2, W3, W5: long scripts of steps in any order, with faults and crashes.
func TestWorld(t *testing.T) {
	d := dice(17)
	met := map[string]int{}
	for run := range 40 {
		w := newWorld(t, filled(t), several(), thrownConfig(&d))
		w.met = met
		y := newScript(&d, several(), diskSectors)
		y.calm = run%3 == 0
		for n := range 800 {
			step := y.next(w.s.Look())
			w.what = fmt.Sprintf("run %d, step %d, kind %d", run, n, step.Kind)
			y.did(step, w.step(step))
		}
	}
	for e := range 4 {
		for _, command := range []int{0, 1, 3, 4, 5, 6, 7} {
			what := fmt.Sprintf("export %d, command %d, code 0", e, command)
			if wanted := 5 * b2i(e != fixedAt || command != 1 && command != 4 && command != 6); met[what] < wanted {
				t.Errorf("%s: only %d times", what, met[what])
			}
		}
	}
	for what, wanted := range map[string]int{"export 0, command 1, code 5": 5, "export 1, command 1, code 5": 5, "export 2, command 1, code 5": 3, "start": 20, "taken back": 20, "ended": 20, "took 4": 20} {
		if met[what] < wanted {
			t.Errorf("%s: only %d times", what, met[what])
		}
	}
}

// refusal is the error with which chapter 11 refuses a request; 0, if it does not. (No payload that is tested here reaches MaxDF.)
func refusal(e api.Export, s api.Session, payload uint32, q api.Request) uint32 {
	size := uint64(512 * e.Sectors)
	chunks := s.Structured || s.Extended
	allowed := map[uint16]uint16{0: 5, 1: 1, 2: 1, 3: 1, 4: 1, 5: 1, 6: 1 | 2 | 16, 7: 1 | 8}[q.Type]
	if q.Type == 1 && s.Extended {
		allowed |= 32
	}
	changes := q.Type == 1 || q.Type == 4 || q.Type == 6
	switch {
	case q.Type > 7, q.Flags&^allowed != 0, q.Type == 1 && s.Extended && q.Flags&32 == 0, q.Flags&4 != 0 && !chunks:
		return api.EInval
	case q.Type == 3 && (q.Offset != 0 || q.Length != 0):
		return api.EInval
	case q.Type == 3:
		return 0
	case changes && e.ReadOnly:
		return api.EPerm
	case q.Type == 7 && (!chunks || len(s.Contexts) == 0), q.Length == 0, q.Type <= 1 && q.Length > uint64(payload):
		return api.EInval
	case q.Offset > size || q.Length > size-q.Offset:
		if q.Type == 1 || q.Type == 6 {
			return api.ENoSpc
		}
		return api.EInval
	case e.Min > 1 && (q.Offset%uint64(e.Min) != 0 || q.Length%uint64(e.Min) != 0):
		return api.EInval
	case q.Flags&16 != 0 && (q.Flags&2 != 0 || q.Offset%512 != 0 || q.Length%512 != 0):
		return api.ENotSup
	}
	return 0
}
