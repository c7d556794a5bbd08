package engine_test

import (
	"reflect"
	"testing"

	"spindle/api"
	"spindle/engine"
)

// Memory (R2, R4, R5): each call of the tests goes through one of the functions below.

// own lays a value into memory of its own, all of its lists with spare room behind them that is not zero.
func own[T any](v T) T {
	out := reflect.New(reflect.TypeOf(v)).Elem()
	out.Set(reflect.ValueOf(v))
	ownAll(out)
	return out.Interface().(T)
}

func ownAll(v reflect.Value) {
	switch v.Kind() {
	case reflect.Struct:
		for i := range v.NumField() {
			ownAll(v.Field(i))
		}
	case reflect.Slice:
		room := reflect.MakeSlice(v.Type(), v.Len()+2, v.Len()+2)
		reflect.Copy(room, v)
		for i := range v.Len() {
			ownAll(room.Index(i))
		}
		for i := v.Len(); i < room.Len(); i++ {
			spoil(room.Index(i), 0x55)
		}
		v.Set(room.Slice(0, v.Len()))
	}
}

// spoil writes a value over, with all memory that it reaches, spare room included.
func spoil(v reflect.Value, with int) {
	switch v.Kind() {
	case reflect.Struct:
		for i := range v.NumField() {
			spoil(v.Field(i), with)
		}
	case reflect.Slice:
		room := v.Slice(0, v.Cap())
		for i := range room.Len() {
			spoil(room.Index(i), with)
		}
	case reflect.Bool:
		v.SetBool(with%2 == 1)
	case reflect.String:
		v.SetString("spoilt")
	case reflect.Int:
		v.SetInt(int64(with))
	default:
		v.SetUint(uint64(with))
	}
}

// roomed lays a value out with the spare room of its lists.
func roomed(v any) string { return laid(reflect.ValueOf(v), true) }

// A row is the memory of a list, by its first and last byte.
type row struct{ from, to uintptr }

// rows gives the memory of all lists that a value reaches, spare room included.
func rows(v reflect.Value) []row {
	var out []row
	switch v.Kind() {
	case reflect.Struct:
		for i := range v.NumField() {
			out = append(out, rows(v.Field(i))...)
		}
	case reflect.Slice:
		if size := uintptr(v.Cap()) * v.Type().Elem().Size(); size > 0 {
			out = append(out, row{v.Pointer(), v.Pointer() + size - 1})
		}
		if k := v.Type().Elem().Kind(); k == reflect.Struct || k == reflect.Slice {
			for i := range v.Len() {
				out = append(out, rows(v.Index(i))...)
			}
		}
	}
	return out
}

// wantApart asks that no two lists share memory.
func wantApart(t *testing.T, what string, lists []row) {
	t.Helper()
	starts := map[uintptr]bool{}
	least, most := ^uintptr(0), uintptr(0)
	for _, r := range lists {
		if starts[r.from] {
			t.Errorf("%s: two lists begin at the same place", what)
			return
		}
		starts[r.from] = true
		least, most = min(least, r.from), max(most, r.to)
	}
	if len(lists) > 400 {
		return // all pairs would be too many: that none begins where another one does has to do
	}
	for i, a := range lists {
		for _, b := range lists[:i] {
			if a.from <= b.to && b.from <= a.to {
				t.Errorf("%s: two lists share memory", what)
				return
			}
		}
	}
}

// called does a call twice: with what is handed in laid into memory of its own, which is written over behind it, as is what the first one answered. Both must answer the same, in memory that nothing else has.
func called[In, Out any](t *testing.T, what string, in In, call func(In) Out) Out {
	t.Helper()
	handed := own(in)
	wanted := roomed(handed)
	first := call(handed)
	if got := roomed(handed); got != wanted {
		t.Errorf("%s: what was handed in is %.500s behind the call, was %.500s", what, got, wanted)
	}
	wantApart(t, what, append(rows(reflect.ValueOf(handed)), rows(reflect.ValueOf(first))...))
	before := shown(first)
	spoil(reflect.ValueOf(&handed).Elem(), 0x33)
	if got := shown(first); got != before {
		t.Errorf("%s: what it answered changed with what was handed in", what)
	}
	spoil(reflect.ValueOf(&first).Elem(), 0x35)
	second := call(own(in))
	if got := shown(second); got != before {
		t.Errorf("%s again: %.500s, at first %.500s", what, got, before)
	}
	return second
}

type parsed struct {
	S  script
	At int
	E  api.Errno
}

func parseOf(t *testing.T, text string) (script, int, api.Errno) {
	t.Helper()
	p := called(t, "Parse", text, func(text string) parsed {
		s, at, e := engine.Parse(text)
		return parsed{s, at, e}
	})
	if p.E != api.OK && shown(p.S) != "{}" {
		t.Errorf("Parse: %.300s beside error %d", shown(p.S), p.E)
	}
	if p.E == api.OK && p.At != 0 {
		t.Errorf("Parse: line %d without an error", p.At)
	}
	return p.S, p.At, p.E
}

type printed struct {
	Text string
	E    api.Errno
}

func printOf(t *testing.T, s script) (string, api.Errno) {
	t.Helper()
	p := called(t, "Print", s, func(s script) printed {
		text, e := engine.Print(s)
		return printed{text, e}
	})
	if p.E != api.OK && p.Text != "" {
		t.Errorf("Print: %.300q beside error %d", p.Text, p.E)
	}
	return p.Text, p.E
}

type report struct {
	R api.Report
	E api.Errno
}

func runOf(t *testing.T, s script) (api.Report, api.Errno) {
	t.Helper()
	r := called(t, "Run", s, func(s script) report {
		r, e := engine.Run(s)
		return report{r, e}
	})
	if r.E != api.OK && shown(r.R) != "{}" {
		t.Errorf("Run: %.300s beside error %d", shown(r.R), r.E)
	}
	return r.R, r.E
}

type told struct {
	S script
	R api.Report
}

func tellOf(t *testing.T, s script, r api.Report) string {
	t.Helper()
	return called(t, "Tell", told{s, r}, func(x told) string { return engine.Tell(x.S, x.R) })
}

func playOf(t *testing.T, text string) string {
	t.Helper()
	return called(t, "Play", text, engine.Play)
}

// R4: all memory of a script and of its report, of every kind of line.
func TestMemory(t *testing.T) {
	s := wantParsed(t, head+everyLine+begin+"client 0 request 1 0 0 3 \"abc\"\nclient 0 request 0 0 0 1024\nsay 0 5\nsay 0 100\nmove 0\ncrash 01\nfeed 0 \"abc\"\n")
	r := ran(t, s)
	want(t, "lists of the report", len(rows(reflect.ValueOf(r))) > 20, true)
	for what, v := range map[string]any{"Parse": s, "Run": r} {
		wantApart(t, what, rows(reflect.ValueOf(v)))
	}
	tellOf(t, s, r)
}
