package server_test

import (
	"bytes"
	"encoding/binary"
	"fmt"
	"reflect"
	"slices"
	"testing"

	"spindle/api"
	"spindle/server"
)

const (
	max32 = 1<<32 - 1
	max64 = 1<<64 - 1
)

// lay lays numbers down by their kinds, the highest byte first, and strings and bytes as they are.
func lay(parts ...any) []byte {
	var b []byte
	for _, p := range parts {
		switch v := p.(type) {
		case uint16:
			b = binary.BigEndian.AppendUint16(b, v)
		case uint32:
			b = binary.BigEndian.AppendUint32(b, v)
		case uint64:
			b = binary.BigEndian.AppendUint64(b, v)
		case string:
			b = append(b, v...)
		case []byte:
			b = append(b, v...)
		default:
			panic(fmt.Sprintf("lay of %T", p))
		}
	}
	return b
}

// greeting is what a server says first.
func greeting() []byte { return lay("NBDMAGIC", "IHAVEOPT", uint16(3)) }

// flagBytes are a client's flags.
func flagBytes(f uint32) []byte { return lay(f) }

// option is one as a client says it.
func option(code uint32, data ...byte) []byte {
	return lay("IHAVEOPT", code, uint32(len(data)), data)
}

// goTo asks for the transmission with an export.
func goTo(name string) []byte {
	return option(api.OptGo, lay(uint32(len(name)), name, uint16(1), uint16(api.InfoBlock))...)
}

// setMeta asks for contexts of an export.
func setMeta(name string, queries ...string) []byte {
	b := lay(uint32(len(name)), name, uint32(len(queries)))
	for _, q := range queries {
		b = append(b, lay(uint32(len(q)), q)...)
	}
	return option(api.OptSetMeta, b...)
}

// replyBytes are an answer to an option.
func replyBytes(code, kind uint32, data ...byte) []byte {
	return lay(uint64(0x0003e889045565a9), code, kind, uint32(len(data)), data)
}

// requestBytes are a request as a client says it, right or not.
func requestBytes(q api.Request, extended bool) []byte {
	if extended {
		return lay(uint32(0x21e41c71), q.Flags, q.Type, q.Cookie, q.Offset, q.Length, q.Data)
	}
	return lay(uint32(0x25609513), q.Flags, q.Type, q.Cookie, q.Offset, uint32(q.Length), q.Data)
}

// simpleBytes are a simple answer.
func simpleBytes(code uint32, cookie uint64, data ...byte) []byte {
	return lay(uint32(0x67446698), code, cookie, data)
}

// many gives n bytes of which neighbours differ, none of them 0.
func many(n int) []byte {
	b := make([]byte, n)
	for i := range b {
		b[i] = byte(i*7+i/256)%255 + 1
	}
	return b
}

// of gives n bytes of one value.
func of(n int, with byte) []byte { return bytes.Repeat([]byte{with}, n) }

// request is one with a range.
func request(kind uint16, offset, length uint64, flags ...uint16) api.Request {
	q := api.Request{Type: kind, Cookie: offset*1000 + length, Offset: offset, Length: length}
	for _, f := range flags {
		q.Flags |= f
	}
	return q
}

func read(offset, length uint64, flags ...uint16) api.Request {
	return request(api.CmdRead, offset, length, flags...)
}

func write(offset uint64, data []byte, flags ...uint16) api.Request {
	q := request(api.CmdWrite, offset, uint64(len(data)), flags...)
	q.Data = data
	return q
}

func flush() api.Request { return request(api.CmdFlush, 0, 0) }

func export(name string, sectors int) api.Export {
	return api.Export{Name: name, Sectors: sectors, Min: 1, Pref: 512}
}

// one is the export of the chapter's examples: its note sector is 42, its data begin at 43.
func one() []api.Export { return []api.Export{export("a", 8)} }

// several are exports of all kinds, with the numbers volumeAt to fixedAt.
func several() []api.Export {
	return []api.Export{
		export("a", 8),
		{Name: "t", Desc: "tracked", Sectors: 9, Min: 1, Pref: 4096, Tracked: true},
		{Name: "p", Sectors: 6, Min: 1, Pref: 512, Private: true, Rotational: true},
		{Name: "r", Sectors: 4, Min: 512, Pref: 1024, ReadOnly: true},
	}
}

// Where the several ones stand among them, and on the disk: each has one note sector, the tracked one a mark sector behind that.
const (
	volumeAt  = 0
	trackAt   = 1
	privateAt = 2
	fixedAt   = 3

	volumeNotes  = 42
	volumeData   = 43
	trackNotes   = 51
	trackMarks   = 52
	trackData    = 53
	privateNotes = 62
	privateData  = 63
	fixedNotes   = 69
	fixedData    = 70
	diskSectors  = 76
)

// formatted gives a fresh disk's bytes.
func formatted(t *testing.T, sectors int, exports []api.Export) []byte {
	t.Helper()
	image, e := server.Format(sectors, api.Label{Exports: exports})
	if e != api.OK {
		t.Fatalf("Format: error %d", e)
	}
	return image
}

// lain lays sectors of an export down on an image, whose notes are one sector.
func lain(image []byte, notes, data int, sectors map[int]byte) {
	for s, with := range sectors {
		image[notes*512+s/8] |= 128 >> (s % 8)
		copy(image[(data+s)*512:], of(512, with))
	}
}

// filled gives a disk of several exports that have something laid out, the one that can't be changed too.
func filled(t *testing.T) []byte {
	t.Helper()
	image := formatted(t, diskSectors, several())
	lain(image, volumeNotes, volumeData, map[int]byte{1: 'b', 2: 'c', 5: 'f'})
	lain(image, trackNotes, trackData, map[int]byte{0: 'k', 8: 'l'})
	image[trackMarks*512] = 0x40
	lain(image, privateNotes, privateData, map[int]byte{0: 'p', 3: 'q'})
	lain(image, fixedNotes, fixedData, map[int]byte{1: 'x', 2: 'y'})
	return image
}

// config is one with room for whatever a test says.
func config(lines, conns, flight int) api.Config {
	return api.Config{Lines: lines, Conns: conns, Limits: api.Limits{Payload: 4608, Option: 400, Flight: flight}}
}

// example is the configuration of the chapter's examples.
func example() api.Config {
	return api.Config{Lines: 2, Conns: 2, Limits: api.Limits{Payload: 1024, Option: 64, Flight: 2}}
}

// started gives a server over an image.
func started(t *testing.T, image []byte, c api.Config) *server.Server {
	t.Helper()
	s, e := server.New(image, c)
	if e != api.OK || s == nil {
		t.Fatalf("New: error %d", e)
	}
	return s
}

// The steps, as they are asked.
func opens() api.Step                { return api.Step{Kind: api.SOpen} }
func feeds(c int, b []byte) api.Step { return api.Step{Kind: api.SFeed, Conn: c, Data: b} }
func takes(c int) api.Step           { return api.Step{Kind: api.STake, Conn: c} }
func runs(c, n int) api.Step         { return api.Step{Kind: api.SRun, Conn: c, N: n} }
func sends(c, n int) api.Step        { return api.Step{Kind: api.SSend, Conn: c, N: n} }
func shuts(c int) api.Step           { return api.Step{Kind: api.SShut, Conn: c} }
func writes() api.Step               { return api.Step{Kind: api.SWrite} }
func falls(keep ...bool) api.Step    { return api.Step{Kind: api.SCrash, Keep: keep} }
func rises() api.Step                { return api.Step{Kind: api.SStart} }
func clears(n int) api.Step          { return api.Step{Kind: api.SClear, N: n} }

// fails arms a fault that fails one operation of a kind, behind some that go well.
func fails(kind, sector, after int) api.Step {
	return api.Step{Kind: api.SFault, Fault: api.Fault{Kind: kind, Sector: sector, After: after, Times: 1}}
}

// mustStep does a step that must go well.
func mustStep(t *testing.T, s *server.Server, x api.Step) api.Answer {
	t.Helper()
	a := s.Step(x)
	if a.Err != api.OK {
		t.Fatalf("step %d: error %d", x.Kind, a.Err)
	}
	return a
}

// A form is how a session answers.
type form struct {
	name                 string
	structured, extended bool
	contexts             []string
}

// forms are all of them.
func forms() []form {
	return []form{
		{name: "plain"}, {name: "in chunks", structured: true}, {name: "extended", extended: true},
		{name: "in chunks, with contexts", structured: true, contexts: []string{"base:allocation", "spindle:dirty"}},
		{name: "extended, with contexts", extended: true, contexts: []string{"spindle:unsaved", "base:allocation", "spindle:dirty"}},
	}
}

// asks are the options that lead to a form and to an export.
func (f form) asks(export string) [][]byte {
	var out [][]byte
	if f.structured {
		out = append(out, option(api.OptStructured))
	}
	if f.extended {
		out = append(out, option(api.OptExtended))
	}
	if len(f.contexts) > 0 {
		out = append(out, setMeta(export, f.contexts...))
	}
	return append(out, goTo(export))
}

// begun gives a new connection that has begun with an export in some form.
func begun(t *testing.T, s *server.Server, f form, export string) int {
	t.Helper()
	c := mustStep(t, s, opens()).Conn
	for _, ask := range append([][]byte{flagBytes(3)}, f.asks(export)...) {
		want(t, "N", mustStep(t, s, feeds(c, ask)).N, len(ask))
		mustStep(t, s, takes(c))
	}
	if look, there := served(s, c); !there || look.Phase != api.PhaseWork {
		t.Fatal("no transmission")
	}
	return c
}

// served tells how a connection stands, if it is there.
func served(s *server.Server, c int) (api.ConnLook, bool) {
	for _, x := range s.Look().Conns {
		if x.Conn == c {
			return x.Look, true
		}
	}
	return api.ConnLook{}, false
}

// asked feeds a request and takes it; a write says that it has a payload, where that must be said.
func asked(t *testing.T, s *server.Server, c int, q api.Request) api.Took {
	t.Helper()
	look, _ := served(s, c)
	if look.Session.Extended && q.Type == api.CmdWrite {
		q.Flags |= api.FlagPayload
	}
	b := requestBytes(q, look.Session.Extended)
	want(t, "N", mustStep(t, s, feeds(c, b)).N, len(b))
	a := mustStep(t, s, takes(c))
	if a.Took.Kind != api.TookRequest {
		t.Fatalf("a request: kind %d", a.Took.Kind)
	}
	return a.Took
}

// done asks a request, does it, the one alone that waits, and lets its answer leave: what SRun said, and what left.
func done(t *testing.T, s *server.Server, c int, q api.Request) (api.Answer, heard) {
	t.Helper()
	if asked(t, s, c, q).Refused {
		t.Fatalf("refused: %+v", q)
	}
	look, _ := served(s, c)
	ran := mustStep(t, s, runs(c, 0))
	sent := mustStep(t, s, sends(c, 0))
	want(t, "N", sent.N, ran.N)
	return ran, hear(t, look.Session, q, sent.Out)
}

// well asks a request that must go well: what left.
func well(t *testing.T, s *server.Server, c int, q api.Request) heard {
	t.Helper()
	ran, h := done(t, s, c, q)
	if ran.Code != 0 {
		t.Fatalf("%+v: code %d", q, ran.Code)
	}
	return h
}

// peeked gives an export's bytes.
func peeked(t *testing.T, s *server.Server, export int) []byte {
	t.Helper()
	b, e := s.Peek(export)
	if e != api.OK {
		t.Fatalf("Peek %d: error %d", export, e)
	}
	return b
}

func want[T comparable](t *testing.T, what string, got, want T) {
	t.Helper()
	if got != want {
		t.Errorf("%s: %v, want %v", what, got, want)
	}
}

func wantBytes(t *testing.T, what string, got, want []byte) {
	t.Helper()
	if bytes.Equal(got, want) {
		return
	}
	at := 0
	for at < min(len(got), len(want)) && got[at] == want[at] {
		at++
	}
	t.Errorf("%s: %d bytes, want %d; from %d on % x, want % x", what, len(got), len(want), at, got[at:min(len(got), at+40)], want[at:min(len(want), at+40)])
}

// told is a value in words, in which an empty list and nil are the same.
func told(v any) string { return fmt.Sprintf("%T%+v", v, v) }

func same(a, b any) bool { return reflect.DeepEqual(a, b) || told(a) == told(b) }

func wantSame(t *testing.T, what string, got, want any) {
	t.Helper()
	if !same(got, want) {
		t.Errorf("%s:\n%.900s, want\n%.900s", what, told(got), told(want))
	}
}

// wantRefused looks that a step is refused, and changes nothing.
func wantRefused(t *testing.T, what string, s *server.Server, x api.Step, e api.Errno) {
	t.Helper()
	before := stateOf(s)
	wantSame(t, what, s.Step(x), api.Answer{Err: e})
	wantState(t, what, s, before)
}

// state is all that a server tells of itself.
type state struct {
	up     bool
	label  api.Label
	look   api.ServerLook
	peeks  [][]byte
	errors []api.Errno
	image  []byte
	queue  []api.Put
}

func stateOf(s *server.Server) state {
	x := state{up: s.Up(), label: s.Label(), look: s.Look(), image: s.Image(), queue: s.Queue()}
	for i := -1; i <= 4; i++ {
		b, e := s.Peek(i)
		x.peeks, x.errors = append(x.peeks, b), append(x.errors, e)
	}
	return x
}

func wantState(t *testing.T, what string, s *server.Server, before state) {
	t.Helper()
	now := stateOf(s)
	want(t, what+": Up", now.up, before.up)
	wantSame(t, what+": Label", now.label, before.label)
	wantSame(t, what+": Look", now.look, before.look)
	wantSame(t, what+": Peek's errors", now.errors, before.errors)
	for i := range now.peeks {
		wantBytes(t, fmt.Sprint(what, ": Peek ", i-1), now.peeks[i], before.peeks[i])
	}
	wantBytes(t, what+": Image", now.image, before.image)
	wantQueue(t, what, now.queue, before.queue)
}

func wantQueue(t *testing.T, what string, got, wanted []api.Put) {
	t.Helper()
	want(t, what+": how many writes wait", len(got), len(wanted))
	for i := range min(len(got), len(wanted)) {
		want(t, fmt.Sprint(what, ": the sector of write ", i), got[i].Sector, wanted[i].Sector)
		wantBytes(t, fmt.Sprint(what, ": the data of write ", i), got[i].Data, wanted[i].Data)
	}
}

// roomy gives the same list with spare room behind it.
func roomy[T any](list []T, spare T) []T {
	room := append(slices.Clone(list), spare, spare, spare)
	return room[:len(list)]
}

// whole is a list with the spare room behind it.
func whole[T any](list []T) []T { return list[:cap(list)] }

// spoil overwrites a list and the spare room behind it.
func spoil[T any](list []T, with T) {
	list = whole(list)
	for i := range list {
		list[i] = with
	}
}

// dice gives numbers that look as if thrown, the same ones in each run.
type dice uint64

func (d *dice) below(n int) int {
	*d = *d*6364136223846793005 + 1442695040888963407
	return int(uint64(*d)>>33) % n
}

func (d *dice) bool() bool { return d.below(2) == 1 }

// pick throws for one of a list.
func pick[T any](d *dice, list ...T) T { return list[d.below(len(list))] }
