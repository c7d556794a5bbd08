package flight_test

import (
	"bytes"
	"fmt"
	"math"
	"reflect"
	"slices"
	"testing"

	"spindle/api"
	"spindle/flight"
)

// request gives one that differs from all others of these tests in each of its fields.
func request(n int) api.Request {
	return api.Request{
		Flags:  uint16(n + 1),
		Type:   uint16(n + 2),
		Cookie: math.MaxUint64 - uint64(n),
		Offset: uint64(n) << 40,
		Length: uint64(n) + 1<<33,
		Data:   fmt.Appendf(nil, "data of %d", n),
	}
}

// answerTo is what these tests answer to the request of a number.
func answerTo(id int) []byte { return fmt.Appendf(nil, "answer to %d", id) }

func pending(id int) api.Entry { return api.Entry{ID: id, Req: request(id)} }

func ready(id int) api.Entry {
	return api.Entry{ID: id, Req: request(id), Ready: true, Answer: answerTo(id)}
}

// fresh gives a table for so many.
func fresh(t *testing.T, most int) *flight.Table {
	t.Helper()
	x, e := flight.New(most)
	if e != api.OK || x == nil {
		t.Fatalf("New(%d): error %d", most, e)
	}
	return x
}

// filled gives a table for so many in which request(1) to request(n) are pending.
func filled(t *testing.T, most, n int) *flight.Table {
	t.Helper()
	x := fresh(t, most)
	add(t, x, 1, n)
	return x
}

// add adds request(first) to request(last), which get the same numbers.
func add(t *testing.T, x *flight.Table, first, last int) {
	t.Helper()
	for n := first; n <= last; n++ {
		wantAdd(t, "Add", x, request(n), n, api.OK)
	}
}

// done answers the requests of these numbers.
func done(t *testing.T, x *flight.Table, ids ...int) {
	t.Helper()
	for _, id := range ids {
		want(t, fmt.Sprint("Done ", id), x.Done(id, answerTo(id)), api.OK)
	}
}

func want[T comparable](t *testing.T, what string, got, want T) {
	t.Helper()
	if got != want {
		t.Errorf("%s: %v, want %v", what, got, want)
	}
}

func wantBytes(t *testing.T, what string, got, want []byte) {
	t.Helper()
	if !bytes.Equal(got, want) {
		t.Errorf("%s: %q, want %q", what, got, want)
	}
}

func wantNumbers(t *testing.T, what string, got []int, want ...int) {
	t.Helper()
	if !slices.Equal(got, want) {
		t.Errorf("%s: %v, want %v", what, got, want)
	}
}

func wantAdd(t *testing.T, what string, x *flight.Table, q api.Request, id int, e api.Errno) {
	t.Helper()
	gotID, gotE := x.Add(q)
	want(t, what+": the number", gotID, id)
	want(t, what+": the error", gotE, e)
}

func wantTake(t *testing.T, x *flight.Table, id int, answer []byte, e api.Errno) {
	t.Helper()
	got, gotE := x.Take(id)
	wantBytes(t, fmt.Sprint("Take ", id), got, answer)
	want(t, fmt.Sprint("Take ", id, ": the error"), gotE, e)
}

func wantGet(t *testing.T, what string, x *flight.Table, id int, entry api.Entry, e api.Errno) {
	t.Helper()
	got, gotE := x.Get(id)
	want(t, fmt.Sprint(what, ": Get ", id, ": the error"), gotE, e)
	if !same(got, entry) {
		t.Errorf("%s: Get %d: %+v, want %+v", what, id, got, entry)
	}
}

// same holds two entries against one another; an empty list and nil are the same.
func same(a, b api.Entry) bool {
	equal := bytes.Equal(a.Req.Data, b.Req.Data) && bytes.Equal(a.Answer, b.Answer)
	a.Req.Data, a.Answer = nil, nil
	b.Req.Data, b.Answer = nil, nil
	return equal && reflect.DeepEqual(a, b)
}

// none are numbers that no table of these tests has given.
var none = []int{0, -1, -2, -64, math.MinInt, math.MaxInt, math.MaxInt - 1, 1 << 32, 1<<32 + 1, 100_000}

// wantHolds looks, by every call that tells, that a table for so many holds just these entries, told here by rising number.
func wantHolds(t *testing.T, what string, x *flight.Table, most int, entries ...api.Entry) {
	t.Helper()
	var waiting, answered []int
	for _, entry := range entries {
		wantGet(t, what, x, entry.ID, entry, api.OK)
		if entry.Ready {
			answered = append(answered, entry.ID)
		} else {
			waiting = append(waiting, entry.ID)
		}
	}
	wantNumbers(t, what+": Pending", x.Pending(), waiting...)
	wantNumbers(t, what+": Ready", x.Ready(), answered...)
	want(t, what+": Len", x.Len(), len(entries))
	want(t, what+": Full", x.Full(), len(entries) == most)
	wantEntries(t, what+": All", slices.Collect(x.All()), entries...)
	for _, id := range none {
		wantGet(t, what, x, id, api.Entry{}, api.ErrEntry)
	}
}

func wantEntries(t *testing.T, what string, got []api.Entry, entries ...api.Entry) {
	t.Helper()
	if !slices.EqualFunc(got, entries, same) {
		t.Errorf("%s: %+v, want %+v", what, got, entries)
	}
}

// rows gives what row does of each number.
func rows(row func(int) api.Entry, first, last int) []api.Entry {
	var out []api.Entry
	for id := first; id <= last; id++ {
		out = append(out, row(id))
	}
	return out
}

// roomy gives the same bytes with spare room behind them, of other bytes.
func roomy(b []byte) []byte {
	room := append(slices.Clone(b), "the room behind"...)
	return room[:len(b)]
}

// whole is a list with the spare room behind it.
func whole[T any](list []T) []T { return list[:cap(list)] }

// spoil overwrites a list and the spare room behind it.
func spoil[T any](list []T, with T) {
	list = whole(list)
	for i := range list {
		list[i] = with
	}
}

// dice gives numbers that look as if thrown, the same ones in each run.
type dice uint64

func (d *dice) below(n int) int {
	*d = *d*6364136223846793005 + 1442695040888963407
	return int(uint64(*d)>>33) % n
}

// shuffled gives the numbers 1 to n in an order that is thrown.
func (d *dice) shuffled(n int) []int {
	out := make([]int, n)
	for i := range out {
		at := d.below(i + 1)
		out[i] = out[at]
		out[at] = i + 1
	}
	return out
}
