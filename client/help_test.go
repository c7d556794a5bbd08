package client_test

import (
	"bytes"
	"encoding/binary"
	"fmt"
	"reflect"
	"slices"
	"testing"

	"spindle/api"
	"spindle/client"
)

const (
	max16 = 1<<16 - 1
	max32 = 1<<32 - 1
	max64 = 1<<64 - 1
)

// lay lays numbers down by their kinds, the highest byte first, and strings and bytes as they are.
func lay(parts ...any) []byte {
	var b []byte
	for _, p := range parts {
		switch v := p.(type) {
		case uint16:
			b = binary.BigEndian.AppendUint16(b, v)
		case uint32:
			b = binary.BigEndian.AppendUint32(b, v)
		case uint64:
			b = binary.BigEndian.AppendUint64(b, v)
		case string:
			b = append(b, v...)
		case []byte:
			b = append(b, v...)
		default:
			panic(fmt.Sprintf("lay of %T", p))
		}
	}
	return b
}

// greetingBytes are what a server says first.
func greetingBytes(flags uint16) []byte { return lay("NBDMAGIC", "IHAVEOPT", flags) }

// optionBytes are an option as a client says it.
func optionBytes(code uint32, data ...byte) []byte {
	return lay("IHAVEOPT", code, uint32(len(data)), data)
}

// infoData are what INFO and GO ask.
func infoData(name string, kinds ...uint16) []byte {
	b := lay(uint32(len(name)), name, uint16(len(kinds)))
	for _, k := range kinds {
		b = append(b, lay(k)...)
	}
	return b
}

// metaData are what the two options of contexts ask.
func metaData(name string, queries ...string) []byte {
	b := lay(uint32(len(name)), name, uint32(len(queries)))
	for _, q := range queries {
		b = append(b, lay(uint32(len(q)), q)...)
	}
	return b
}

// requestBytes are a request as a client says it.
func requestBytes(q api.Request, extended bool) []byte {
	if extended {
		return lay(uint32(0x21e41c71), q.Flags, q.Type, q.Cookie, q.Offset, q.Length, q.Data)
	}
	return lay(uint32(0x25609513), q.Flags, q.Type, q.Cookie, q.Offset, uint32(q.Length), q.Data)
}

// replyBytes are an answer to an option.
func replyBytes(code, kind uint32, data ...byte) []byte {
	return lay(uint64(0x0003e889045565a9), code, kind, uint32(len(data)), data)
}

func ackBytes(code uint32) []byte { return replyBytes(code, 1) }

// What stands in the Data of answers to options.
func serverBody(name string, rest ...byte) []byte { return lay(uint32(len(name)), name, rest) }
func exportBody(size uint64, flags uint16) []byte { return lay(uint16(0), size, flags) }
func metaBody(id uint32, name string) []byte      { return lay(id, name) }

// exportBytes are the answer to EXPORT_NAME.
func exportBytes(size uint64, flags uint16, zeroes bool) []byte {
	b := lay(size, flags)
	if zeroes {
		b = append(b, make([]byte, 124)...)
	}
	return b
}

// simpleBytes are a simple answer.
func simpleBytes(code uint32, cookie uint64, data ...byte) []byte {
	return lay(uint32(0x67446698), code, cookie, data)
}

// chunkBytes are a chunk; off is laid down of an extended one alone.
func chunkBytes(extended bool, flags, kind uint16, cookie, off uint64, body ...byte) []byte {
	if extended {
		return lay(uint32(0x6e8a278c), flags, kind, cookie, off, uint64(len(body)), body)
	}
	return lay(uint32(0x668e33ef), flags, kind, cookie, uint32(len(body)), body)
}

// What stands in the Data of chunks.
func dataBody(off uint64, data ...byte) []byte  { return lay(off, data) }
func holeBody(off uint64, n uint32) []byte      { return lay(off, n) }
func errorBody(code uint32, text string) []byte { return lay(code, uint16(len(text)), text) }
func errorAtBody(code uint32, text string, at uint64) []byte {
	return lay(errorBody(code, text), at)
}

// run is one of a context's.
type run struct{ len, flags uint64 }

func statusBody(wide bool, context uint32, runs ...run) []byte {
	b := lay(context)
	if wide {
		b = lay(context, uint32(len(runs)))
	}
	for _, r := range runs {
		if wide {
			b = append(b, lay(r.len, r.flags)...)
		} else {
			b = append(b, lay(uint32(r.len), uint32(r.flags))...)
		}
	}
	return b
}

// many gives n bytes of which neighbours differ, none of them 0.
func many(n int) []byte {
	b := make([]byte, n)
	for i := range b {
		b[i] = byte((i*7+i/256)%255) + 1
	}
	return b
}

// of gives n bytes of one value.
func of(n int, with byte) []byte { return bytes.Repeat([]byte{with}, n) }

func read(offset, length uint64, flags ...uint16) api.Request {
	return asking(api.CmdRead, offset, length, flags...)
}

func status(offset, length uint64, flags ...uint16) api.Request {
	return asking(api.CmdStatus, offset, length, flags...)
}

func asking(kind uint16, offset, length uint64, flags ...uint16) api.Request {
	q := api.Request{Type: kind, Offset: offset, Length: length}
	for _, f := range flags {
		q.Flags |= f
	}
	return q
}

func write(offset uint64, data []byte) api.Request {
	return api.Request{Type: api.CmdWrite, Offset: offset, Length: uint64(len(data)), Data: data}
}

func disc() api.Request { return api.Request{Type: api.CmdDisc} }

// A form is what was agreed upon.
type form struct {
	name             string
	chunks, extended bool
	contexts         []uint32
}

// The forms, with two contexts where there may be any.
var (
	plainly  = form{name: "plain"}
	inChunks = form{name: "in chunks", chunks: true, contexts: []uint32{1, 7}}
	extended = form{name: "extended", chunks: true, extended: true, contexts: []uint32{1, 7}}
)

func forms() []form { return []form{plainly, inChunks, extended} }

// chunk is one in that form, of a request that asks from off on.
func (f form) chunk(flags, kind uint16, cookie, off uint64, body ...byte) []byte {
	return chunkBytes(f.extended, flags, kind, cookie, off, body...)
}

// statusKind is the type of chunk in which a status comes.
func (f form) statusKind() uint16 {
	if f.extended {
		return api.ChunkStatus64
	}
	return api.ChunkStatus
}

// fresh gives a client that has heard nothing.
func fresh(t *testing.T) *client.Client {
	t.Helper()
	c := client.New()
	if c == nil {
		t.Fatal("New: nil")
	}
	return c
}

// greeted gives one that has heard a greeting.
func greeted(t *testing.T, flags uint16) *client.Client {
	t.Helper()
	c := fresh(t)
	wantEvents(t, "the greeting", c.In(greetingBytes(flags)), api.Event{Kind: api.EvGreeting, Flags: uint32(flags)})
	return c
}

// haggling gives one that has said flags.
func haggling(t *testing.T, flags uint32) *client.Client {
	t.Helper()
	c := greeted(t, 3)
	b, e := c.Flags(flags)
	want(t, "Flags", e, api.OK)
	wantBytes(t, "Flags", b, lay(flags))
	return c
}

// agreeing gives one that has agreed upon a form, and not upon an export.
func agreeing(t *testing.T, f form) *client.Client {
	t.Helper()
	c := haggling(t, 3)
	if f.chunks && !f.extended {
		agree(t, c, api.OptStructured)
	}
	if f.extended {
		agree(t, c, api.OptExtended)
	}
	if len(f.contexts) > 0 {
		choose(t, c, f.contexts...)
	}
	return c
}

// agree asks an option without data, which is acknowledged.
func agree(t *testing.T, c *client.Client, code uint32) {
	t.Helper()
	mustAsk(t, c, code)
	wantEvents(t, "an acknowledgement", c.In(ackBytes(code)), api.Event{Kind: api.EvAck, Option: code})
}

// choose lets contexts be chosen.
func choose(t *testing.T, c *client.Client, ids ...uint32) {
	t.Helper()
	mustAsk(t, c, api.OptSetMeta)
	for _, id := range ids {
		c.In(replyBytes(api.OptSetMeta, 4, metaBody(id, "x:y")...))
	}
	wantEvents(t, "contexts are chosen", c.In(ackBytes(api.OptSetMeta)), api.Event{Kind: api.EvAck, Option: api.OptSetMeta})
}

// mustAsk asks an option without data.
func mustAsk(t *testing.T, c *client.Client, code uint32) {
	t.Helper()
	b, e := c.Option(code, nil)
	want(t, "Option", e, api.OK)
	wantBytes(t, "Option", b, optionBytes(code))
}

// goOn lets GO be answered.
func goOn(t *testing.T, c *client.Client) {
	t.Helper()
	mustAsk(t, c, api.OptGo)
	heard := c.In(lay(replyBytes(api.OptGo, 3, exportBody(4096, 5)...), ackBytes(api.OptGo)))
	wantEvents(t, "GO", heard, api.Event{Kind: api.EvInfo, Option: api.OptGo, Info: api.Info{Size: 4096, Flags: 5}}, api.Event{Kind: api.EvAck, Option: api.OptGo}, started(4096, 5))
	want(t, "the phase", c.Phase(), api.ClientWork)
}

func started(size uint64, flags uint16) api.Event {
	return api.Event{Kind: api.EvStart, Info: api.Info{Size: size, Flags: flags}}
}

// working gives one in the transmission, in some form.
func working(t *testing.T, f form) *client.Client {
	t.Helper()
	c := agreeing(t, f)
	goOn(t, c)
	return c
}

// waiting gives one with a single request outstanding, whose cookie is 1.
func waiting(t *testing.T, f form, q api.Request) *client.Client {
	t.Helper()
	c := working(t, f)
	want(t, "the cookie", mustRequest(t, c, q), 1)
	return c
}

// mustRequest asks a request.
func mustRequest(t *testing.T, c *client.Client, q api.Request) uint64 {
	t.Helper()
	_, cookie, e := c.Request(q)
	if e != api.OK {
		t.Fatalf("Request %+v: error %d", q, e)
	}
	return cookie
}

// done is the end of a request.
func done(cookie uint64, code uint32, data ...byte) api.Event {
	return api.Event{Kind: api.EvDone, Cookie: cookie, Code: code, Data: data}
}

// outstanding is what Outstanding tells of a request.
func outstanding(cookie uint64, q api.Request) api.Outstanding {
	return api.Outstanding{Cookie: cookie, Type: q.Type, Offset: q.Offset, Length: q.Length}
}

func listed(c *client.Client) []api.Outstanding { return slices.Collect(c.Outstanding()) }

func want[T comparable](t *testing.T, what string, got, want T) {
	t.Helper()
	if got != want {
		t.Errorf("%s: %v, want %v", what, got, want)
	}
}

func wantBytes(t *testing.T, what string, got, want []byte) {
	t.Helper()
	if !bytes.Equal(got, want) {
		t.Errorf("%s: %d bytes % x, want %d bytes % x", what, len(got), got[:min(len(got), 80)], len(want), want[:min(len(want), 80)])
	}
}

// told is a value in words, in which an empty list and nil are the same.
func told(v any) string { return fmt.Sprintf("%T%+v", v, v) }

func same(a, b any) bool { return reflect.DeepEqual(a, b) || told(a) == told(b) }

func wantSame(t *testing.T, what string, got, want any) {
	t.Helper()
	if !same(got, want) {
		t.Errorf("%s:\n%.600s, want\n%.600s", what, told(got), told(want))
	}
}

func wantEvents(t *testing.T, what string, got []api.Event, wanted ...api.Event) {
	t.Helper()
	if len(got) != len(wanted) {
		t.Errorf("%s: %d events, want %d:\n%.600s, want\n%.600s", what, len(got), len(wanted), told(got), told(wanted))
		return
	}
	for i := range got {
		wantSame(t, fmt.Sprint(what, ": event ", i), got[i], wanted[i])
	}
}

// wantOutstanding looks at what is outstanding, asked twice.
func wantOutstanding(t *testing.T, what string, c *client.Client, wanted ...api.Outstanding) {
	t.Helper()
	for range 2 {
		if got := listed(c); !slices.Equal(got, wanted) {
			t.Errorf("%s: outstanding %+v, want %+v", what, got, wanted)
		}
	}
}

// wantBreak lets bytes come that break a client: what they tell ahead of that comes first. It is broken for good then, hears nothing, and says nothing; what was asked stays outstanding.
func wantBreak(t *testing.T, what string, c *client.Client, b []byte, ahead ...api.Event) {
	t.Helper()
	before := listed(c)
	wantEvents(t, what, c.In(b), append(slices.Clone(ahead), api.Event{Kind: api.EvBroken})...)
	var left []api.Outstanding
	for _, o := range before {
		if !slices.ContainsFunc(ahead, func(e api.Event) bool { return e.Kind == api.EvDone && e.Cookie == o.Cookie }) {
			left = append(left, o)
		}
	}
	wantBroken(t, what, c, left...)
}

func wantBroken(t *testing.T, what string, c *client.Client, left ...api.Outstanding) {
	t.Helper()
	for _, b := range [][]byte{nil, {0}, greetingBytes(3), ackBytes(3), simpleBytes(0, 1), simpleBytes(0, 2), inChunks.chunk(1, 0, 1, 0), extended.chunk(1, 0, 1, 0)} {
		want(t, what+": the phase", c.Phase(), api.ClientBroken)
		wantEvents(t, what+": more bytes", c.In(b))
		wantOutstanding(t, what, c, left...)
	}
	wantRefusals(t, what, c, api.ErrAsk)
}

// wantRefusals looks that nothing may be asked.
func wantRefusals(t *testing.T, what string, c *client.Client, e api.Errno) {
	t.Helper()
	for _, ask := range asks() {
		b, cookie, f := ask.of(c)
		want(t, what+": "+ask.name, f, e)
		want(t, what+": "+ask.name, cookie, 0)
		wantBytes(t, what+": "+ask.name, b, nil)
	}
}

// An ask is a call that says something, if it may be.
type ask struct {
	name string
	of   func(c *client.Client) ([]byte, uint64, api.Errno)
}

// asks are some of each kind, all of which may be in some phase.
func asks() []ask {
	two := func(b []byte, e api.Errno) ([]byte, uint64, api.Errno) { return b, 0, e }
	return []ask{
		{"Flags", func(c *client.Client) ([]byte, uint64, api.Errno) { return two(c.Flags(3)) }},
		{"EXPORT_NAME", func(c *client.Client) ([]byte, uint64, api.Errno) { return two(c.Option(1, []byte("a"))) }},
		{"LIST", func(c *client.Client) ([]byte, uint64, api.Errno) { return two(c.Option(3, nil)) }},
		{"INFO", func(c *client.Client) ([]byte, uint64, api.Errno) {
			return two(c.Info(false, api.InfoRequest{Name: "a"}))
		}},
		{"GO", func(c *client.Client) ([]byte, uint64, api.Errno) {
			return two(c.Info(true, api.InfoRequest{Name: "a"}))
		}},
		{"LIST_META", func(c *client.Client) ([]byte, uint64, api.Errno) { return two(c.Meta(false, api.MetaRequest{})) }},
		{"SET_META", func(c *client.Client) ([]byte, uint64, api.Errno) { return two(c.Meta(true, api.MetaRequest{})) }},
		{"READ", func(c *client.Client) ([]byte, uint64, api.Errno) { return c.Request(read(0, 512)) }},
		{"DISC", func(c *client.Client) ([]byte, uint64, api.Errno) { return c.Request(disc()) }},
	}
}

// roomy gives the same list with spare room behind it.
func roomy[T any](list []T, spare T) []T {
	room := append(slices.Clone(list), spare, spare, spare)
	return room[:len(list)]
}

// whole is a list with the spare room behind it.
func whole[T any](list []T) []T { return list[:cap(list)] }

// spoil overwrites a list and the spare room behind it.
func spoil[T any](list []T, with T) {
	list = whole(list)
	for i := range list {
		list[i] = with
	}
}

// spoilEvents overwrites all that events hold.
func spoilEvents(list []api.Event) {
	for _, e := range list {
		spoil(e.Info.Data, 0xe1)
		spoil(e.Data, 0xe2)
		for _, s := range e.Status {
			spoil(s.Runs, api.StatusRun{Len: 77, Flags: 77})
		}
		spoil(e.Status, api.ContextRuns{Context: 99})
	}
	spoil(list, api.Event{Kind: 99})
}

// dice gives numbers that look as if thrown, the same ones in each run.
type dice uint64

func (d *dice) below(n int) int {
	*d = *d*6364136223846793005 + 1442695040888963407
	return int(uint64(*d)>>33) % n
}

func (d *dice) bool() bool { return d.below(2) == 1 }

// pick throws for one of a list.
func pick[T any](d *dice, list ...T) T { return list[d.below(len(list))] }
