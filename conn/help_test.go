package conn_test

import (
	"bytes"
	"encoding/binary"
	"fmt"
	"reflect"
	"slices"
	"testing"

	"spindle/api"
	"spindle/conn"
)

const (
	max16 = 1<<16 - 1
	max32 = 1<<32 - 1
	max64 = 1<<64 - 1
)

// lay lays numbers down by their kinds, the highest byte first, and strings and bytes as they are.
func lay(parts ...any) []byte {
	var b []byte
	for _, p := range parts {
		switch v := p.(type) {
		case uint16:
			b = binary.BigEndian.AppendUint16(b, v)
		case uint32:
			b = binary.BigEndian.AppendUint32(b, v)
		case uint64:
			b = binary.BigEndian.AppendUint64(b, v)
		case string:
			b = append(b, v...)
		case []byte:
			b = append(b, v...)
		default:
			panic(fmt.Sprintf("lay of %T", p))
		}
	}
	return b
}

// greeting is what a server says first.
func greeting() []byte { return lay("NBDMAGIC", "IHAVEOPT", uint16(3)) }

// flagBytes are a client's flags.
func flagBytes(f uint32) []byte { return lay(f) }

// option is one as a client says it.
func option(code uint32, data ...byte) []byte {
	return lay("IHAVEOPT", code, uint32(len(data)), data)
}

// infoRequest is what INFO and GO ask.
func infoRequest(name string, kinds ...uint16) []byte {
	b := lay(uint32(len(name)), name, uint16(len(kinds)))
	for _, k := range kinds {
		b = append(b, lay(k)...)
	}
	return b
}

// metaRequest is what the two options of contexts ask.
func metaRequest(name string, queries ...string) []byte {
	b := lay(uint32(len(name)), name, uint32(len(queries)))
	for _, q := range queries {
		b = append(b, lay(uint32(len(q)), q)...)
	}
	return b
}

func goTo(name string) []byte { return option(api.OptGo, infoRequest(name, api.InfoBlock)...) }

func exportName(name string) []byte { return option(api.OptExportName, []byte(name)...) }

func setMeta(name string, queries ...string) []byte {
	return option(api.OptSetMeta, metaRequest(name, queries...)...)
}

// replyBytes are an answer to an option.
func replyBytes(code, kind uint32, data ...byte) []byte {
	return lay(uint64(0x0003e889045565a9), code, kind, uint32(len(data)), data)
}

// requestBytes are a request as a client says it, right or not.
func requestBytes(q api.Request, extended bool) []byte {
	if extended {
		return lay(uint32(0x21e41c71), q.Flags, q.Type, q.Cookie, q.Offset, q.Length, q.Data)
	}
	return lay(uint32(0x25609513), q.Flags, q.Type, q.Cookie, q.Offset, uint32(q.Length), q.Data)
}

// simpleBytes are a simple answer.
func simpleBytes(code uint32, cookie uint64, data ...byte) []byte {
	return lay(uint32(0x67446698), code, cookie, data)
}

// many gives n bytes of which neighbours differ.
func many(n int) []byte {
	b := make([]byte, n)
	for i := range b {
		b[i] = byte(i*7 + i/256 + 1)
	}
	return b
}

// read, write and disc are requests of those kinds.
func read(cookie, offset, length uint64) api.Request {
	return api.Request{Type: api.CmdRead, Cookie: cookie, Offset: offset, Length: length}
}

func write(cookie, offset uint64, data []byte) api.Request {
	return api.Request{Type: api.CmdWrite, Cookie: cookie, Offset: offset, Length: uint64(len(data)), Data: data}
}

func disc() api.Request { return api.Request{Type: api.CmdDisc} }

func export(name string, sectors int) api.Export {
	return api.Export{Name: name, Sectors: sectors, Min: 1, Pref: 512}
}

// one is the export of the chapter's examples.
func one() []api.Export { return []api.Export{export("a", 8)} }

// several are exports with something of everything.
func several() []api.Export {
	return []api.Export{
		{Name: "first", Desc: "tracked", Sectors: 16, Tracked: true, Min: 1, Pref: 4096},
		{Name: "second", Sectors: 8, ReadOnly: true, Rotational: true, Min: 512, Pref: 512},
		{Name: "für sich", Desc: "private", Sectors: 24, Private: true, Min: 1, Pref: 1024},
	}
}

// small are the limits of the chapter's examples, for so many requests.
func small(flight int) api.Limits { return api.Limits{Payload: 512, Option: 64, Flight: flight} }

// wide are limits with room for longer options.
func wide(flight int) api.Limits { return api.Limits{Payload: 1024, Option: 400, Flight: flight} }

// A form is how a session answers.
type form struct {
	name                 string
	structured, extended bool
	contexts             []string
}

// forms are all of them.
func forms() []form {
	return []form{
		{name: "plain"}, {name: "in chunks", structured: true}, {name: "extended", extended: true},
		{name: "in chunks, with contexts", structured: true, contexts: []string{"base:allocation", "spindle:dirty"}},
		{name: "extended, with contexts", extended: true, contexts: []string{"spindle:unsaved", "base:allocation", "spindle:dirty"}},
	}
}

// asks are the options that lead to a form and to an export.
func (f form) asks(export string) [][]byte {
	var out [][]byte
	if f.structured {
		out = append(out, option(api.OptStructured))
	}
	if f.extended {
		out = append(out, option(api.OptExtended))
	}
	if len(f.contexts) > 0 {
		out = append(out, setMeta(export, f.contexts...))
	}
	return append(out, goTo(export))
}

// fresh gives a connection whose greeting waits.
func fresh(t *testing.T, exports []api.Export, l api.Limits) *conn.Conn {
	t.Helper()
	c, e := conn.New(exports, l)
	if e != api.OK || c == nil {
		t.Fatalf("New: error %d", e)
	}
	return c
}

// haggling gives one that has taken flags; its greeting has left.
func haggling(t *testing.T, exports []api.Export, l api.Limits, flags uint32) *conn.Conn {
	t.Helper()
	c := fresh(t, exports, l)
	wantBytes(t, "the greeting", c.Out(), greeting())
	give(t, c, flagBytes(flags))
	wantTook(t, "flags", c.Take(), api.Took{Kind: api.TookFlags})
	return c
}

// working gives one that has begun with an export in some form; all that it said has left.
func working(t *testing.T, exports []api.Export, l api.Limits, f form, name string) *conn.Conn {
	t.Helper()
	c := haggling(t, exports, l, 3)
	for _, ask := range f.asks(name) {
		give(t, c, ask)
		want(t, "an option", c.Take().Kind, api.TookOption)
	}
	if c.Look().Phase != api.PhaseWork {
		t.Fatal("no transmission")
	}
	c.Out()
	return c
}

// begun gives one of the chapter's examples in the transmission.
func begun(t *testing.T, flight int) *conn.Conn {
	t.Helper()
	return working(t, one(), small(flight), form{}, "a")
}

// give feeds bytes, which must all be taken.
func give(t *testing.T, c *conn.Conn, b []byte) {
	t.Helper()
	if n := c.Feed(b); n != len(b) {
		t.Fatalf("Feed: %d of %d bytes", n, len(b))
	}
}

// request feeds one, and takes it.
func request(t *testing.T, c *conn.Conn, q api.Request) api.Took {
	t.Helper()
	give(t, c, requestBytes(q, c.Session().Extended))
	return c.Take()
}

// well is an outcome of a request that went well.
func well(s api.Session, q api.Request) api.Outcome {
	var o api.Outcome
	if q.Type == api.CmdRead && q.Length > 0 {
		o.Pieces = []api.Piece{{Off: q.Offset, Len: uint32(q.Length), Data: many(int(q.Length))}}
	}
	if q.Type == api.CmdStatus {
		for range s.Contexts {
			o.Runs = append(o.Runs, []api.StatusRun{{Len: q.Length, Flags: 1}})
		}
	}
	return o
}

func want[T comparable](t *testing.T, what string, got, want T) {
	t.Helper()
	if got != want {
		t.Errorf("%s: %v, want %v", what, got, want)
	}
}

func wantBytes(t *testing.T, what string, got, want []byte) {
	t.Helper()
	if !bytes.Equal(got, want) {
		t.Errorf("%s: %d bytes % x, want %d bytes % x", what, len(got), got[:min(len(got), 80)], len(want), want[:min(len(want), 80)])
	}
}

func wantNumbers(t *testing.T, what string, got []int, want ...int) {
	t.Helper()
	if !slices.Equal(got, want) {
		t.Errorf("%s: %v, want %v", what, got, want)
	}
}

// told is a value in words, in which an empty list and nil are the same.
func told(v any) string { return fmt.Sprintf("%T%+v", v, v) }

func same(a, b any) bool { return reflect.DeepEqual(a, b) || told(a) == told(b) }

func wantSame(t *testing.T, what string, got, want any) {
	t.Helper()
	if !same(got, want) {
		t.Errorf("%s:\n%.600s, want\n%.600s", what, told(got), told(want))
	}
}

func wantTook(t *testing.T, what string, got, want api.Took) {
	t.Helper()
	wantSame(t, what, got, want)
}

func wantLook(t *testing.T, what string, c *conn.Conn, want api.ConnLook) {
	t.Helper()
	wantSame(t, what, c.Look(), want)
}

func wantTask(t *testing.T, what string, c *conn.Conn, id int, q api.Request) {
	t.Helper()
	task, e := c.Task(id)
	want(t, fmt.Sprint(what, ": Task ", id), e, api.OK)
	wantSame(t, fmt.Sprint(what, ": Task ", id), task, api.Task{ID: id, Req: q})
}

func wantNoTask(t *testing.T, what string, c *conn.Conn, id int) {
	t.Helper()
	task, e := c.Task(id)
	want(t, fmt.Sprint(what, ": Task ", id), e, api.ErrTask)
	wantSame(t, fmt.Sprint(what, ": Task ", id), task, api.Task{})
}

// wantEnd takes what ends the connection, and looks that it is over: what is in the outbox still leaves.
func wantEnd(t *testing.T, what string, c *conn.Conn, took api.Took, out []byte) {
	t.Helper()
	next := c.Look().Next
	wantTook(t, what, c.Take(), took)
	wantOver(t, what, c, next, out)
}

// wantOver looks that a connection is over, and has said something.
func wantOver(t *testing.T, what string, c *conn.Conn, next int, out []byte) {
	t.Helper()
	want(t, what+": Over", c.Over(), true)
	wantLook(t, what, c, api.ConnLook{Phase: api.PhaseOver, Session: c.Session(), Outbox: len(out), Next: next})
	for id := -1; id <= next; id++ {
		wantNoTask(t, what, c, id)
		want(t, what+": Finish", c.Finish(id, api.Outcome{Code: 5}), api.ErrTask)
		want(t, what+": Send", c.Send(id), api.ErrTask)
	}
	want(t, what+": Feed", c.Feed(many(100)), 0)
	wantTook(t, what+": Take", c.Take(), api.Took{})
	wantNumbers(t, what+": Pending", c.Pending())
	wantNumbers(t, what+": Ready", c.Ready())
	wantBytes(t, what+": Out", c.Out(), out)
	wantBytes(t, what+": Out again", c.Out(), nil)
}

// wantVain looks that Take takes nothing and changes nothing.
func wantVain(t *testing.T, what string, c *conn.Conn) {
	t.Helper()
	before := c.Look()
	for range 2 {
		wantTook(t, what, c.Take(), api.Took{})
		wantLook(t, what, c, before)
	}
}

// roomy gives the same list with spare room behind it.
func roomy[T any](list []T, spare T) []T {
	room := append(slices.Clone(list), spare, spare, spare)
	return room[:len(list)]
}

// whole is a list with the spare room behind it.
func whole[T any](list []T) []T { return list[:cap(list)] }

// spoil overwrites a list and the spare room behind it.
func spoil[T any](list []T, with T) {
	list = whole(list)
	for i := range list {
		list[i] = with
	}
}

// dice gives numbers that look as if thrown, the same ones in each run.
type dice uint64

func (d *dice) below(n int) int {
	*d = *d*6364136223846793005 + 1442695040888963407
	return int(uint64(*d)>>33) % n
}

func (d *dice) bool() bool { return d.below(2) == 1 }

// pick throws for one of a list.
func pick[T any](d *dice, list ...T) T { return list[d.below(len(list))] }
