package frame_test

import (
	"bytes"
	"encoding/binary"
	"fmt"
	"reflect"
	"slices"
	"testing"

	"spindle/api"
	"spindle/frame"
)

const (
	max32  = 1<<32 - 1
	max64  = 1<<64 - 1
	plenty = 1000000 // a room for all rows of bytes of these tests
)

// lay lays numbers down by their kinds, the highest byte first, and strings and bytes as they are.
func lay(parts ...any) []byte {
	var b []byte
	for _, p := range parts {
		switch v := p.(type) {
		case uint16:
			b = binary.BigEndian.AppendUint16(b, v)
		case uint32:
			b = binary.BigEndian.AppendUint32(b, v)
		case uint64:
			b = binary.BigEndian.AppendUint64(b, v)
		case string:
			b = append(b, v...)
		case []byte:
			b = append(b, v...)
		default:
			panic(fmt.Sprintf("lay of %T", p))
		}
	}
	return b
}

// many gives n bytes of which neighbours differ.
func many(n int) []byte {
	b := make([]byte, n)
	for i := range b {
		b[i] = byte(i*7 + i>>8 + 1)
	}
	return b
}

func join(rows ...[]byte) []byte { return slices.Concat(rows...) }

// fresh gives an inbox of that room.
func fresh(t *testing.T, room int) *frame.Inbox {
	t.Helper()
	x, e := frame.New(room)
	if e != api.OK || x == nil {
		t.Fatalf("New(%d): error %d", room, e)
	}
	return x
}

// fed gives an inbox with plenty of room that holds b.
func fed(t *testing.T, b []byte) *frame.Inbox {
	t.Helper()
	x := fresh(t, plenty)
	if n := x.Feed(b); n != len(b) {
		t.Fatalf("Feed of %d bytes: %d", len(b), n)
	}
	return x
}

// pour feeds from row, of which the first bytes were fed, the next few, and tells how many were fed then. An inbox that takes nothing where some must be taken ends the test.
func pour(t *testing.T, what string, x *frame.Inbox, row []byte, at, size int) int {
	t.Helper()
	n := x.Feed(row[at:min(at+size, len(row))])
	if n <= 0 {
		t.Fatalf("%s: Feed: %d, with room for %d", what, n, x.Room())
	}
	return at + n
}

func want[T comparable](t *testing.T, what string, got, want T) {
	t.Helper()
	if got != want {
		t.Errorf("%s: %v, want %v", what, got, want)
	}
}

func wantBytes(t *testing.T, what string, got, want []byte) {
	t.Helper()
	if !bytes.Equal(got, want) {
		t.Errorf("%s: %s, want %s", what, short(got), short(want))
	}
}

func short(v any) string {
	s := fmt.Sprintf("%+v", v)
	if b, ok := v.([]byte); ok {
		s = fmt.Sprintf("% X (%d bytes)", b[:min(len(b), 60)], len(b))
	}
	return s[:min(len(s), 300)]
}

// told is a value in words, in which an empty list and nil are the same.
func told(v any) string { return fmt.Sprintf("%T%+v", v, v) }

func same(a, b any) bool { return reflect.DeepEqual(a, b) || told(a) == told(b) }

// wantCut looks at all that a cut answers.
func wantCut(t *testing.T, what string, m any, c api.Cut, wantM any, wantC api.Cut) {
	t.Helper()
	want(t, what+": the cut", c, wantC)
	if !same(m, wantM) {
		t.Errorf("%s: %s, want %s", what, short(m), short(wantM))
	}
}

// wantStands looks at how many bytes an inbox of that room holds.
func wantStands(t *testing.T, what string, x *frame.Inbox, room, held int) {
	t.Helper()
	want(t, what+": Held", x.Held(), held)
	want(t, what+": Room", x.Room(), room-held)
}

// wantHolds takes all that an inbox of that room holds, and looks at it. No byte is to be passed over.
func wantHolds(t *testing.T, what string, x *frame.Inbox, room int, held []byte) {
	t.Helper()
	wantStands(t, what, x, room, len(held))
	b, c := x.Data(x.Held())
	want(t, what+": Data of all", c, api.CutDone)
	wantBytes(t, what+": what is held", b, held)
	wantStands(t, what+", taken", x, room, 0)
}

// behind are rows of bytes that may stand behind a message.
func behind() [][]byte {
	return [][]byte{nil, {0}, {0xff}, many(3), make([]byte, 200), bytes.Repeat([]byte{0xff}, 200), []byte("IHAVEOPT"), many(5000)}
}

// roomy gives the same bytes with spare room behind them, of other bytes.
func roomy(b []byte) []byte {
	room := append(slices.Clone(b), many(64)...)
	return room[:len(b)]
}

// whole is a list with the spare room behind it.
func whole[T any](list []T) []T { return list[:cap(list)] }

// spoil overwrites a list and the spare room behind it.
func spoil(list []byte, with byte) {
	list = whole(list)
	for i := range list {
		list[i] = with
	}
}

// dice gives numbers that look as if thrown, the same ones in each run.
type dice uint64

func (d *dice) below(n int) int {
	*d = *d*6364136223846793005 + 1442695040888963407
	return int(uint64(*d)>>33) % n
}

func (d *dice) bool() bool { return d.below(2) == 1 }

// pick throws for one of a list.
func pick[T any](d *dice, list ...T) T { return list[d.below(len(list))] }
