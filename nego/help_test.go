package nego_test

import (
	"encoding/binary"
	"fmt"
	"reflect"
	"slices"
	"strings"
	"testing"

	"spindle/api"
	"spindle/nego"
)

const max32 = 1<<32 - 1

// lay lays numbers down by their kinds, the highest byte first, and strings and bytes as they are.
func lay(parts ...any) []byte {
	var b []byte
	for _, p := range parts {
		switch v := p.(type) {
		case uint16:
			b = binary.BigEndian.AppendUint16(b, v)
		case uint32:
			b = binary.BigEndian.AppendUint32(b, v)
		case uint64:
			b = binary.BigEndian.AppendUint64(b, v)
		case string:
			b = append(b, v...)
		case []byte:
			b = append(b, v...)
		default:
			panic(fmt.Sprintf("lay of %T", p))
		}
	}
	return b
}

// counted is a text with its length of four bytes ahead.
func counted(s string) []byte { return lay(uint32(len(s)), s) }

// infoRequest is what INFO and GO ask, right or not.
func infoRequest(name string, kinds ...uint16) []byte {
	b := lay(counted(name), uint16(len(kinds)))
	for _, k := range kinds {
		b = append(b, lay(k)...)
	}
	return b
}

// metaRequest is what the two options of contexts ask, right or not.
func metaRequest(name string, queries ...string) []byte {
	b := lay(counted(name), uint32(len(queries)))
	for _, q := range queries {
		b = append(b, counted(q)...)
	}
	return b
}

func export(name string, sectors int) api.Export {
	return api.Export{Name: name, Sectors: sectors, Min: 1, Pref: 512}
}

// with gives an export in which one thing is changed.
func with(e api.Export, change func(*api.Export)) api.Export {
	change(&e)
	return e
}

// two are the chapter's exports.
func two() []api.Export {
	return []api.Export{export("a", 2), {Name: "b", Desc: "two", Sectors: 8, Min: 512, Pref: 512, ReadOnly: true}}
}

// mixed are exports with something of everything.
func mixed() []api.Export {
	return []api.Export{
		{Name: "root", Desc: "the first", Sectors: 16, ReadOnly: true, Rotational: true, Tracked: true, Min: 4096, Pref: 65536},
		{Name: "für sich", Sectors: 7, Private: true, Min: 512, Pref: 1024},
		{Name: "ro", Desc: "Ä\n\x7f", Sectors: 20, Tracked: true, Min: 1, Pref: 2048},
		{Name: "r", Sectors: 1, Rotational: true, Min: 1, Pref: 512},
		{Name: "none", Desc: "plain", Sectors: 300, Min: 2048, Pref: 2048},
	}
}

// full are as many exports, with as long names and descriptions, as may be.
func full() []api.Export {
	var out []api.Export
	for i := range api.MaxExports {
		out = append(out, api.Export{
			Name:    strings.Repeat("n", api.MaxName-1) + string(rune('a'+i)),
			Desc:    strings.Repeat("é", api.MaxDesc/2),
			Sectors: 8 * (i + 1), Tracked: i%2 == 0, Min: 1, Pref: 32768,
		})
	}
	return out
}

func limits() api.Limits { return api.Limits{Payload: 512, Option: 64, Flight: 1} }

// fresh gives a talk that awaits flags.
func fresh(t *testing.T, exports []api.Export) *nego.Talk {
	t.Helper()
	x, e := nego.New(exports, limits())
	if e != api.OK || x == nil {
		t.Fatalf("New: error %d", e)
	}
	return x
}

// talk gives one that has taken flags.
func talk(t *testing.T, exports []api.Export, flags uint32) *nego.Talk {
	t.Helper()
	x := fresh(t, exports)
	if e := x.Flags(flags); e != api.OK {
		t.Fatalf("Flags(%d): error %d", flags, e)
	}
	return x
}

// chunked gives one that has agreed upon chunks.
func chunked(t *testing.T, exports []api.Export) *nego.Talk {
	t.Helper()
	x := talk(t, exports, 3)
	wantAcked(t, "OptStructured", x, api.Option{Code: api.OptStructured})
	return x
}

// codes are those of the chapter's table and EXPORT_NAME.
func codes() []uint32 {
	return []uint32{api.OptExportName, api.OptAbort, api.OptList, api.OptStartTLS, api.OptInfo, api.OptGo, api.OptStructured, api.OptListMeta, api.OptSetMeta, api.OptExtended}
}

// strange are codes of no table, some of which look like one that is there in fewer bits.
func strange() []uint32 {
	return []uint32{0, 4, 12, 13, 77, 255, 0x101, 0x103, 0x107, 0x10003, 0x10007, 0x80000001, 0x80000003, 0xffff0008, max32 - 1, max32}
}

// every is codes and strange.
func every() []uint32 { return append(codes(), strange()...) }

// sent is an option as an inbox tells it.
func sent(code uint32, data ...byte) api.Option {
	return api.Option{Code: code, Len: uint32(len(data)), Data: data}
}

// proper is an option of a code with Data that are right for the first of the exports.
func proper(code uint32) api.Option {
	switch code {
	case api.OptInfo, api.OptGo:
		return sent(code, infoRequest("", api.InfoBlock)...)
	case api.OptListMeta, api.OptSetMeta:
		return sent(code, metaRequest("", "base:allocation")...)
	}
	return sent(code)
}

var (
	on    = api.NegoStep{Kind: api.NegoOn}
	start = api.NegoStep{Kind: api.NegoStart}
	end   = api.NegoStep{Kind: api.NegoEnd}
	ack   = api.OptionReply{Kind: api.RepAck}
)

func server(name string) api.OptionReply {
	return api.OptionReply{Kind: api.RepServer, Data: counted(name)}
}

func meta(id uint32, name string) api.OptionReply {
	return api.OptionReply{Kind: api.RepMeta, Data: lay(id, name)}
}

// infoOf is the RepInfo of one kind, of an export with so many flags.
func infoOf(kind uint16, e api.Export, flags uint16, payload uint32) api.OptionReply {
	var rest []byte
	switch kind {
	case api.InfoExport:
		rest = lay(uint64(e.Sectors)*512, flags)
	case api.InfoName:
		rest = lay(e.Name)
	case api.InfoDesc:
		rest = lay(e.Desc)
	case api.InfoBlock:
		rest = lay(e.Min, e.Pref, payload)
	}
	return api.OptionReply{Kind: api.RepInfo, Data: lay(kind, rest)}
}

func want[T comparable](t *testing.T, what string, got, want T) {
	t.Helper()
	if got != want {
		t.Errorf("%s: %v, want %v", what, got, want)
	}
}

func wantErr(t *testing.T, what string, got, want api.Errno) {
	t.Helper()
	if got != want {
		t.Errorf("%s: error %d, want %d", what, got, want)
	}
}

// told is a value in words, in which an empty list and nil are the same.
func told(v any) string { return fmt.Sprintf("%T%+v", v, v) }

func same(a, b any) bool { return reflect.DeepEqual(a, b) || told(a) == told(b) }

// short is the beginning of an answer in words.
func short(l []api.OptionReply) string {
	s := ""
	for _, r := range l {
		s += fmt.Sprintf("{%d %x: % x} ", r.Option, r.Kind, r.Data[:min(len(r.Data), 40)])
	}
	return s[:min(len(s), 500)]
}

func named(o api.Option) string {
	return fmt.Sprintf("option %d (Long %v, %q)", o.Code, o.Long, o.Data[:min(len(o.Data), 60)])
}

// wantAnswer asks an option, and looks at all that is answered. (Each reply must have the option's code.)
func wantAnswer(t *testing.T, what string, x *nego.Talk, o api.Option, step api.NegoStep, replies ...api.OptionReply) {
	t.Helper()
	l, s, e := x.Option(o)
	what += ", " + named(o)
	replies = slices.Clone(replies)
	for i := range replies {
		replies[i].Option = o.Code
	}
	wantErr(t, what, e, api.OK)
	want(t, what+": what follows", s, step)
	if !same(l, replies) {
		t.Errorf("%s: %s, want %s", what, short(l), short(replies))
	}
}

func wantAcked(t *testing.T, what string, x *nego.Talk, o api.Option) {
	t.Helper()
	wantAnswer(t, what, x, o, on, ack)
}

func wantRefused(t *testing.T, what string, x *nego.Talk, o api.Option, kind uint32) {
	t.Helper()
	wantAnswer(t, what, x, o, on, api.OptionReply{Kind: kind})
}

// wantNoAnswer looks that an option is answered by an error alone.
func wantNoAnswer(t *testing.T, what string, x *nego.Talk, o api.Option, wanted api.Errno) {
	t.Helper()
	l, s, e := x.Option(o)
	what += ", " + named(o)
	wantErr(t, what, e, wanted)
	want(t, what+": what follows", s, api.NegoStep{})
	want(t, what+": how many replies", len(l), 0)
}

// wantOver looks that nothing is taken any more, whatever it is.
func wantOver(t *testing.T, what string, x *nego.Talk) {
	t.Helper()
	s, began := x.Session(), x.Started()
	for _, code := range every() {
		wantNoAnswer(t, what, x, proper(code), api.ErrOver)
		wantNoAnswer(t, what, x, api.Option{Code: code, Long: true}, api.ErrOver)
	}
	for _, f := range []uint32{0, 1, 2, 3, 4, max32} {
		wantErr(t, fmt.Sprintf("%s, Flags(%d)", what, f), x.Flags(f), api.ErrOver)
	}
	wantSession(t, what, x, s, began)
}

func wantSession(t *testing.T, what string, x *nego.Talk, s api.Session, began bool) {
	t.Helper()
	if got := x.Session(); !same(got, s) {
		t.Errorf("%s: session %+v, want %+v", what, got, s)
	}
	want(t, what+": Started", x.Started(), began)
}

// roomy gives the same list with spare room behind it.
func roomy[T any](list []T, spare T) []T {
	room := append(slices.Clone(list), spare, spare, spare)
	return room[:len(list)]
}

// whole is a list with the spare room behind it.
func whole[T any](list []T) []T { return list[:cap(list)] }

// spoil overwrites a list and the spare room behind it.
func spoil[T any](list []T, with T) {
	list = whole(list)
	for i := range list {
		list[i] = with
	}
}

// dice gives numbers that look as if thrown, the same ones in each run.
type dice uint64

func (d *dice) below(n int) int {
	*d = *d*6364136223846793005 + 1442695040888963407
	return int(uint64(*d)>>33) % n
}

func (d *dice) bool() bool { return d.below(2) == 1 }

// pick throws for one of a list.
func pick[T any](d *dice, list ...T) T { return list[d.below(len(list))] }

// some throws for up to most of a list, of which one may come again.
func some[T any](d *dice, most int, list ...T) []T {
	var out []T
	for range d.below(most + 1) {
		out = append(out, pick(d, list...))
	}
	return out
}
