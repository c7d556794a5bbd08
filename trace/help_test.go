package trace_test

import (
	"bytes"
	"encoding/binary"
	"fmt"
	"reflect"
	"slices"
	"testing"

	"spindle/api"
	"spindle/trace"
)

const (
	max16 = 1<<16 - 1
	max32 = 1<<32 - 1
	max64 = 1<<64 - 1
)

// lay lays numbers down by their kinds, the highest byte first, and strings and bytes as they are.
func lay(parts ...any) []byte {
	var b []byte
	for _, p := range parts {
		switch v := p.(type) {
		case uint16:
			b = binary.BigEndian.AppendUint16(b, v)
		case uint32:
			b = binary.BigEndian.AppendUint32(b, v)
		case uint64:
			b = binary.BigEndian.AppendUint64(b, v)
		case string:
			b = append(b, v...)
		case []byte:
			b = append(b, v...)
		default:
			panic(fmt.Sprintf("lay of %T", p))
		}
	}
	return b
}

// What the sides say, as bytes. A head alone tells of data that are not there.

func greetingBytes(flags uint16) []byte { return lay("NBDMAGIC", "IHAVEOPT", flags) }
func flagBytes(flags uint32) []byte     { return lay(flags) }
func optionHead(code, n uint32) []byte  { return lay("IHAVEOPT", code, n) }

func optionBytes(code uint32, data ...byte) []byte {
	return lay(optionHead(code, uint32(len(data))), data)
}

func replyHead(code, kind, n uint32) []byte {
	return lay(uint64(0x0003e889045565a9), code, kind, n)
}

func replyBytes(code, kind uint32, data ...byte) []byte {
	return lay(replyHead(code, kind, uint32(len(data))), data)
}

func ackBytes(code uint32) []byte { return replyBytes(code, 1) }

func exportBytes(size uint64, flags uint16, zeroes bool) []byte {
	b := lay(size, flags)
	if zeroes {
		b = append(b, make([]byte, 124)...)
	}
	return b
}

func requestBytes(q api.Request, extended bool) []byte {
	if extended {
		return lay(uint32(0x21e41c71), q.Flags, q.Type, q.Cookie, q.Offset, q.Length, q.Data)
	}
	return lay(uint32(0x25609513), q.Flags, q.Type, q.Cookie, q.Offset, uint32(q.Length), q.Data)
}

func simpleBytes(code uint32, cookie uint64, data ...byte) []byte {
	return lay(uint32(0x67446698), code, cookie, data)
}

func chunkHead(extended bool, flags, kind uint16, cookie, off, n uint64) []byte {
	if extended {
		return lay(uint32(0x6e8a278c), flags, kind, cookie, off, n)
	}
	return lay(uint32(0x668e33ef), flags, kind, cookie, uint32(n))
}

// What a trace is to tell.

func greeting(flags uint32) api.Record {
	return api.Record{Kind: api.RecGreeting, Server: true, Flags: flags}
}

func flags(f uint32) api.Record { return api.Record{Kind: api.RecFlags, Flags: f} }

func option(code uint32, size uint64) api.Record {
	return api.Record{Kind: api.RecOption, Code: code, Size: size}
}

func reply(code, kind uint32, size uint64) api.Record {
	return api.Record{Kind: api.RecReply, Server: true, Code: code, Flags: kind, Size: size}
}

func ack(code uint32) api.Record { return last(reply(code, 1, 0)) }

func last(r api.Record) api.Record {
	r.Last = true
	return r
}

func export(size uint64, flags uint32) api.Record {
	return last(api.Record{Kind: api.RecExport, Server: true, Code: 1, Size: size, Flags: flags})
}

// request is the record of a request, of which the bytes of its payload are told.
func request(n int, q api.Request, size uint64) api.Record {
	q.Data = nil
	return api.Record{Kind: api.RecRequest, N: n, Request: q, Size: size}
}

func answer(n int, code uint32, size uint64) api.Record {
	return last(api.Record{Kind: api.RecAnswer, Server: true, N: n, Code: code, Size: size})
}

func chunk(n int, kind uint32, size uint64) api.Record {
	return api.Record{Kind: api.RecChunk, Server: true, N: n, Code: kind, Size: size}
}

func wrongClient() api.Record { return api.Record{Kind: api.RecWrong} }
func wrongServer() api.Record { return api.Record{Kind: api.RecWrong, Server: true} }

// Requests.

func asking(kind uint16, cookie, offset, length uint64, flags ...uint16) api.Request {
	q := api.Request{Type: kind, Cookie: cookie, Offset: offset, Length: length}
	for _, f := range flags {
		q.Flags |= f
	}
	return q
}

func read(cookie, offset, length uint64) api.Request { return asking(0, cookie, offset, length) }

func write(cookie, offset uint64, data ...byte) api.Request {
	q := asking(1, cookie, offset, uint64(len(data)))
	q.Data = data
	return q
}

func flush(cookie uint64) api.Request { return asking(3, cookie, 0, 0) }

// paid is a request with the flag and the bytes of a payload.
func paid(q api.Request, data ...byte) api.Request {
	q.Flags |= api.FlagPayload
	q.Length, q.Data = uint64(len(data)), data
	return q
}

// many gives n bytes of which neighbours differ, none of them 0.
func many(n int) []byte {
	b := make([]byte, n)
	for i := range b {
		b[i] = byte((i*7+i/256)%255) + 1
	}
	return b
}

// A step is what one side says, and what is to be told of it.
type step struct {
	server bool
	b      []byte
	wanted []api.Record
}

func fromClient(b []byte, wanted ...api.Record) step { return step{false, b, wanted} }
func fromServer(b []byte, wanted ...api.Record) step { return step{true, b, wanted} }

// then is a conversation with more behind it.
func then(steps []step, more ...step) []step { return append(slices.Clone(steps), more...) }

// greeted is a conversation up to the client's flags.
func greeted(f uint32) []step {
	return []step{fromServer(greetingBytes(3), greeting(3)), fromClient(flagBytes(f), flags(f))}
}

// A form is what was agreed upon.
type form struct {
	name             string
	chunks, extended bool
}

var (
	plainly  = form{name: "plain"}
	inChunks = form{name: "in chunks", chunks: true}
	extended = form{name: "extended", chunks: true, extended: true}
)

func forms() []form { return []form{plainly, inChunks, extended} }

// agreeing is a conversation in which a form was agreed upon, and no export yet.
func (f form) agreeing() []step {
	out := greeted(3)
	switch {
	case f.extended:
		out = then(out, fromClient(optionBytes(11), option(11, 0)), fromServer(ackBytes(11), ack(11)))
	case f.chunks:
		out = then(out, fromClient(optionBytes(8), option(8, 0)), fromServer(ackBytes(8), ack(8)))
	}
	return out
}

// working is a conversation up to the beginning of the transmission.
func (f form) working() []step {
	return then(f.agreeing(), fromClient(optionBytes(7, many(7)...), option(7, 7)), fromServer(ackBytes(7), ack(7)))
}

// options tells how many options a conversation up to the transmission has.
func (f form) options() int {
	if f.chunks {
		return 2
	}
	return 1
}

// waiting is a conversation up to requests that are outstanding, with numbers from 1 on.
func (f form) waiting(list ...api.Request) []step {
	out := f.working()
	for i, q := range list {
		out = then(out, fromClient(f.request(q), request(i+1, q, uint64(len(q.Data)))))
	}
	return out
}

func (f form) request(q api.Request) []byte { return requestBytes(q, f.extended) }

// chunk is one in that form, with so many bytes behind it, of a request that asks from off on.
func (f form) chunk(flags, kind uint16, cookie, off uint64, n int) []byte {
	return lay(f.chunkHead(flags, kind, cookie, off, uint64(n)), many(n))
}

func (f form) chunkHead(flags, kind uint16, cookie, off, n uint64) []byte {
	return chunkHead(f.extended, flags, kind, cookie, off, n)
}

// statusKind is the type of chunk in which a status comes.
func (f form) statusKind() uint16 {
	if f.extended {
		return 6
	}
	return 5
}

// play lets a conversation pass by: as it stands, byte by byte, and with each of its last steps cut in two at every place (of a long one near its ends). Each time of each step just what is wanted is told; in the end so much is outstanding and counted.
func play(t *testing.T, what string, steps []step, open []int, tally api.Tally) {
	t.Helper()
	playFrom(t, what, max(0, len(steps)-3), steps, open, tally)
}

// playFrom does the same, and cuts the steps from the one with a number on.
func playFrom(t *testing.T, what string, from int, steps []step, open []int, tally api.Tally) {
	t.Helper()
	playCut(t, what, steps, open, tally, func(int, []byte) []int { return nil })
	playCut(t, what+", byte by byte", steps, open, tally, func(_ int, b []byte) []int { return slices.Collect(everyPlace(b)) })
	for n, s := range steps {
		if n < from {
			continue
		}
		for at := range everyPlace(s.b) {
			if at > 200 && at < len(s.b)-200 {
				continue
			}
			playCut(t, fmt.Sprintf("%s, step %d cut at %d", what, n, at), steps, open, tally, func(m int, _ []byte) []int {
				if m != n {
					return nil
				}
				return []int{at}
			})
			if t.Failed() {
				return
			}
		}
	}
}

func everyPlace(b []byte) func(func(int) bool) {
	return func(yield func(int) bool) {
		for at := 1; at < len(b); at++ {
			if !yield(at) {
				return
			}
		}
	}
}

// playCut lets a conversation pass by, each step cut at places.
func playCut(t *testing.T, what string, steps []step, open []int, tally api.Tally, places func(n int, b []byte) []int) {
	t.Helper()
	x := newTap(t, what)
	for n, s := range steps {
		var told []api.Record
		from := 0
		for _, at := range append(places(n, s.b), len(s.b)) {
			told = append(told, x.pass(s.server, s.b[from:at])...)
			from = at
		}
		wantRecords(t, fmt.Sprintf("%s, step %d", what, n), told, s.wanted)
		if t.Failed() {
			return
		}
	}
	wantList(t, what+": Open", x.x.Open(), open)
	want(t, what+": Count", x.x.Count(), tally)
}

// A tap is a trace and a plain one, by which the same passes. What is handed in has spare room, must come back as it was, and is written over then; so is what is answered, behind being looked at (R4).
type tap struct {
	t    *testing.T
	what string
	x    *trace.Trace
	p    *plain
}

func newTap(t *testing.T, what string) *tap {
	t.Helper()
	x := &tap{t, what, fresh(t), &plain{}}
	x.look()
	return x
}

func fresh(t *testing.T) *trace.Trace {
	t.Helper()
	x := trace.New()
	if x == nil {
		t.Fatal("New: nil")
	}
	return x
}

// pass lets bytes pass by both; it answers what was told.
func (x *tap) pass(server bool, b []byte) []api.Record {
	x.t.Helper()
	handed := roomy(b, 0xaa)
	before := bytes.Clone(whole(handed))
	told := x.x.Pass(server, handed)
	if !bytes.Equal(whole(handed), before) {
		x.t.Errorf("%s: what Pass was handed has changed", x.what)
	}
	spoil(handed, 0xee)
	kept := slices.Clone(told)
	spoilRecords(told)
	wantRecords(x.t, x.what, kept, x.p.pass(server, b))
	x.look()
	return kept
}

// look holds what is outstanding and counted against the plain one; twice, since what is told is new each time, and asking changes nothing.
func (x *tap) look() {
	x.t.Helper()
	for range 2 {
		open := x.x.Open()
		wantList(x.t, x.what+": Open", open, x.p.open())
		spoil(open, -77)
		want(x.t, x.what+": Count", x.x.Count(), x.p.count())
	}
}

// roomy gives a copy of a list with spare room behind it that is not zero; of none, too.
func roomy[T any](list []T, spare T) []T {
	room := append(make([]T, 0, len(list)+3), list...)
	return append(room, spare, spare, spare)[:len(list)]
}

// whole is a list with the spare room behind it.
func whole[T any](list []T) []T { return list[:cap(list)] }

// spoil writes a list over, with the spare room behind it.
func spoil[T any](list []T, with T) {
	for i := range whole(list) {
		whole(list)[i] = with
	}
}

func spoilRecords(list []api.Record) {
	for _, r := range list {
		spoil(r.Request.Data, 0xdd)
	}
	spoil(list, api.Record{Kind: 77, N: -77, Last: true, Request: api.Request{Cookie: 77, Data: []byte("spoilt")}})
}

func want[T comparable](t *testing.T, what string, got, want T) {
	t.Helper()
	if got != want {
		t.Errorf("%s: %+v, want %+v", what, got, want)
	}
}

func wantList[T comparable](t *testing.T, what string, got, want []T) {
	t.Helper()
	if !slices.Equal(got, want) {
		t.Errorf("%s: %v, want %v", what, got, want)
	}
}

// sameRecord holds two records against each other; no record has Data.
func sameRecord(a, b api.Record) bool {
	if len(a.Request.Data)+len(b.Request.Data) > 0 {
		return false
	}
	a.Request.Data, b.Request.Data = nil, nil
	return reflect.DeepEqual(a, b)
}

func wantRecords(t *testing.T, what string, got, wanted []api.Record) {
	t.Helper()
	if !slices.EqualFunc(got, wanted, sameRecord) {
		t.Errorf("%s:\n%+v, want\n%+v", what, got, wanted)
	}
}

// dice gives numbers that look as if thrown, the same ones in each run.
type dice uint64

func (d *dice) below(n int) int {
	*d = *d*6364136223846793005 + 1442695040888963407
	return int(uint64(*d)>>33) % n
}

func (d *dice) bool() bool { return d.below(2) == 1 }

// pick throws for one of a list.
func pick[T any](d *dice, list ...T) T { return list[d.below(len(list))] }
