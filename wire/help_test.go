package wire_test

import (
	"bytes"
	"encoding/binary"
	"fmt"
	"reflect"
	"slices"
	"strings"
	"testing"

	"spindle/api"
)

const (
	max32 = 1<<32 - 1
	max64 = 1<<64 - 1
)

// lay lays numbers down by their kinds, the highest byte first, and strings and bytes as they are.
func lay(parts ...any) []byte {
	var b []byte
	for _, p := range parts {
		switch v := p.(type) {
		case uint16:
			b = binary.BigEndian.AppendUint16(b, v)
		case uint32:
			b = binary.BigEndian.AppendUint32(b, v)
		case uint64:
			b = binary.BigEndian.AppendUint64(b, v)
		case string:
			b = append(b, v...)
		case []byte:
			b = append(b, v...)
		default:
			panic(fmt.Sprintf("lay of %T", p))
		}
	}
	return b
}

// counted is a text with its length of four bytes ahead.
func counted(s string) []byte { return lay(uint32(len(s)), s) }

// many gives n bytes of which neighbours differ.
func many(n int) []byte {
	b := make([]byte, n)
	for i := range b {
		b[i] = byte(i*7 + i>>8 + 1)
	}
	return b
}

// letters is a text of n bytes.
func letters(n int) string { return strings.Repeat("n", n) }

// texts are such as may stand on the wire, the longest among them.
func texts() []string {
	return []string{"", "a", "export", " ", "\x01\x7f", "é€\U0001f4be", "\ufffd", "\U0010ffff", letters(255), letters(256), letters(api.MaxText - 1), letters(api.MaxText), strings.Repeat("é", api.MaxText/2)}
}

// notTexts are none: with a byte 0, not UTF-8, longer than may be.
func notTexts() []string {
	return []string{"\x00", "a\x00", "\x00a", "a\x00b", "\xff", "a\xff", "\xc3", "é\x80", "\xed\xa0\x80", "\xc0\x80", "\xf4\x90\x80\x80", letters(api.MaxText-1) + "\x00", letters(api.MaxText-1) + "é", letters(api.MaxText + 1), letters(70000)}
}

// told is a value in words, in which an empty list and nil are the same.
func told(v any) string { return fmt.Sprintf("%T%+v", v, v) }

func same(a, b any) bool { return reflect.DeepEqual(a, b) || told(a) == told(b) }

func want[T comparable](t *testing.T, what string, got, want T) {
	t.Helper()
	if got != want {
		t.Errorf("%s: %v, want %v", what, got, want)
	}
}

func wantErr(t *testing.T, what string, got, want api.Errno) {
	t.Helper()
	if got != want {
		t.Errorf("%s: error %d, want %d", what, got, want)
	}
}

func wantBytes(t *testing.T, what string, got, want []byte) {
	t.Helper()
	if !bytes.Equal(got, want) {
		t.Errorf("%s: %s, want %s", what, short(got), short(want))
	}
}

func short(v any) string {
	s := fmt.Sprintf("%+v", v)
	if b, ok := v.([]byte); ok {
		s = fmt.Sprintf("% X (%d bytes)", b[:min(len(b), 60)], len(b))
	}
	return s[:min(len(s), 300)]
}

// wantTold looks at all that a decoder answers.
func wantTold(t *testing.T, what string, got any, n int, e api.Errno, wanted any, wantN int, wantE api.Errno) {
	t.Helper()
	if n != wantN || e != wantE {
		t.Errorf("%s: %d bytes, error %d, want %d, error %d", what, n, e, wantN, wantE)
	}
	wantSame(t, what, got, wanted)
}

func wantSame(t *testing.T, what string, got, wanted any) {
	t.Helper()
	if !same(got, wanted) {
		t.Errorf("%s: %s, want %s", what, short(got), short(wanted))
	}
}

// behind are rows of bytes that may stand behind a message.
func behind() [][]byte {
	return [][]byte{nil, {0}, {0xff}, many(3), make([]byte, 200), bytes.Repeat([]byte{0xff}, 200), []byte("IHAVEOPT"), many(5000)}
}

// roomy gives the same bytes with spare room behind them, of other bytes.
func roomy(b []byte) []byte {
	room := append(slices.Clone(b), many(64)...)
	return room[:len(b)]
}

// whole is a list with the spare room behind it.
func whole[T any](list []T) []T { return list[:cap(list)] }

// spoil overwrites a list and the spare room behind it.
func spoil[T any](list []T, with T) {
	list = whole(list)
	for i := range list {
		list[i] = with
	}
}

// dice gives numbers that look as if thrown, the same ones in each run.
type dice uint64

func (d *dice) below(n int) int {
	*d = *d*6364136223846793005 + 1442695040888963407
	return int(uint64(*d)>>33) % n
}

func (d *dice) bool() bool { return d.below(2) == 1 }

func (d *dice) u64() uint64 {
	v := uint64(d.below(1<<31))<<33 ^ uint64(d.below(1<<31))<<13 ^ uint64(d.below(1<<31))
	switch d.below(4) {
	case 0:
		return v
	case 1:
		return v % 8
	case 2:
		return -(v % 4)
	}
	return v % 70000
}

func (d *dice) bytes(n int) []byte {
	b := make([]byte, n)
	for i := range b {
		b[i] = byte(d.below(256))
	}
	return b
}

// pick throws for one of a list.
func pick[T any](d *dice, list ...T) T { return list[d.below(len(list))] }
