package octet_test

import (
	"bytes"
	"math"
	"slices"
	"strings"
	"testing"

	"spindle/api"
	"spindle/octet"
)

// Example 1 of the chapter.
func TestExampleWriter(t *testing.T) {
	w := octet.NewWriter()
	w.U16(258)
	w.U8(7)
	wantErr(t, "Text", w.Text("ab"), api.OK)
	wantBytes(t, "Out", w.Out(), 1, 2, 7, 0, 0, 0, 2, 97, 98)
	wantInt(t, "Len", w.Len(), 9)
	wantErr(t, "Text of 97, 0", w.Text("a\x00"), api.ErrText)
	wantErr(t, "Text of 4097 letters", w.Text(strings.Repeat("a", 4097)), api.ErrLong)
	wantErr(t, "Zeros(-1)", w.Zeros(-1), api.ErrArg)
	wantInt(t, "Len behind what was refused", w.Len(), 9)
}

// P1.1: nothing at first.
func TestWriterBegins(t *testing.T) {
	w := octet.NewWriter()
	wantInt(t, "Len", w.Len(), 0)
	wantBytes(t, "Out", w.Out())
}

// P1.1: numbers, the highest byte first, one behind the other.
func TestWriterNumbers(t *testing.T) {
	w := octet.NewWriter()
	w.U8(0xa1)
	wantInt(t, "Len behind U8", w.Len(), 1)
	w.U16(0xb1b2)
	wantInt(t, "Len behind U16", w.Len(), 3)
	w.U32(0xc1c2c3c4)
	wantInt(t, "Len behind U32", w.Len(), 7)
	w.U64(0xd1d2d3d4d5d6d7d8)
	wantInt(t, "Len behind U64", w.Len(), 15)
	wantBytes(t, "Out", w.Out(), 0xa1, 0xb1, 0xb2, 0xc1, 0xc2, 0xc3, 0xc4, 0xd1, 0xd2, 0xd3, 0xd4, 0xd5, 0xd6, 0xd7, 0xd8)
}

func TestWriterNumbersAtTheirEnds(t *testing.T) {
	w := octet.NewWriter()
	w.U8(0)
	w.U16(0)
	w.U32(0)
	w.U64(0)
	wantBytes(t, "the least", w.Out(), make([]byte, 15)...)
	w = octet.NewWriter()
	w.U8(math.MaxUint8)
	w.U16(math.MaxUint16)
	w.U32(math.MaxUint32)
	w.U64(math.MaxUint64)
	wantBytes(t, "the greatest", w.Out(), bytes.Repeat([]byte{255}, 15)...)
	w = octet.NewWriter()
	w.U16(1)
	w.U32(1)
	w.U64(1)
	wantBytes(t, "ones", w.Out(), 0, 1, 0, 0, 0, 1, 0, 0, 0, 0, 0, 0, 0, 1)
}

// P1.1: Raw lays bytes down as they are.
func TestWriterRaw(t *testing.T) {
	w := octet.NewWriter()
	w.Raw(nil)
	w.Raw([]byte{})
	wantInt(t, "Len behind no bytes", w.Len(), 0)
	all := make([]byte, 256)
	for i := range all {
		all[i] = byte(i)
	}
	w.Raw([]byte{0, 255, 0})
	w.Raw(all)
	wantBytes(t, "Out", w.Out(), append([]byte{0, 255, 0}, all...)...)
	wantInt(t, "Len", w.Len(), 259)
}

// P1.1: Zeros, at its edges.
func TestWriterZeros(t *testing.T) {
	w := octet.NewWriter()
	w.U8(9)
	wantErr(t, "Zeros(0)", w.Zeros(0), api.OK)
	wantInt(t, "Len behind Zeros(0)", w.Len(), 1)
	wantErr(t, "Zeros(1)", w.Zeros(1), api.OK)
	wantErr(t, "Zeros(3)", w.Zeros(3), api.OK)
	w.U8(8)
	for _, n := range []int{-1, -2, math.MinInt32, math.MinInt} {
		wantErr(t, "Zeros of fewer than none", w.Zeros(n), api.ErrArg)
	}
	for _, n := range []int{api.MaxInbox + 1, api.MaxInbox + 2, math.MaxInt32, math.MaxInt} {
		wantErr(t, "Zeros of too many", w.Zeros(n), api.ErrLong)
	}
	wantBytes(t, "Out", w.Out(), 9, 0, 0, 0, 0, 8)
}

func TestWriterZerosAtTheLimit(t *testing.T) {
	w := octet.NewWriter()
	w.U8(9)
	wantErr(t, "Zeros(MaxInbox)", w.Zeros(api.MaxInbox), api.OK)
	wantErr(t, "Zeros(MaxInbox) again", w.Zeros(api.MaxInbox), api.OK)
	w.U8(8)
	want := make([]byte, 2*api.MaxInbox+2)
	want[0], want[len(want)-1] = 9, 8
	if !bytes.Equal(w.Out(), want) {
		t.Error("not just so many bytes 0")
	}
}

// P1.1: a text has its number of bytes ahead.
func TestWriterText(t *testing.T) {
	for _, s := range texts() {
		w := octet.NewWriter()
		w.U8(1)
		wantErr(t, "Text", w.Text(s), api.OK)
		w.U8(2)
		n := len(s)
		want := []byte{1, 0, 0, byte(n >> 8), byte(n)}
		want = append(append(want, s...), 2)
		wantBytes(t, "Out behind a text", w.Out(), want...)
		wantInt(t, "Len", w.Len(), len(want))
	}
	for _, s := range notTexts() {
		w := octet.NewWriter()
		w.U8(1)
		if e := w.Text(s); e != api.ErrText {
			t.Errorf("Text(%q): error %d", s, e)
		}
		wantBytes(t, "Out behind no text", w.Out(), 1)
	}
}

func TestWriterTextAtTheLimit(t *testing.T) {
	for _, s := range []string{strings.Repeat("a", api.MaxText), strings.Repeat("é", api.MaxText/2)} {
		w := octet.NewWriter()
		wantErr(t, "Text at the limit", w.Text(s), api.OK)
		if string(w.Out()) != "\x00\x00\x10\x00"+s {
			t.Error("not the text at the limit")
		}
	}
	w := octet.NewWriter()
	for _, s := range []string{strings.Repeat("a", api.MaxText+1), strings.Repeat("é", api.MaxText/2+1), strings.Repeat("a", 1<<17)} {
		wantErr(t, "Text past the limit", w.Text(s), api.ErrLong)
	}
	for _, s := range []string{strings.Repeat("a", api.MaxText) + "\x00", strings.Repeat("\xff", api.MaxText+1)} {
		wantErr(t, "no text, and too long", w.Text(s), api.ErrText)
	}
	wantInt(t, "Len behind what was refused", w.Len(), 0)
}

// P1.1, R4: Out answers new memory each time.
func TestWriterOutIsNewMemory(t *testing.T) {
	w := octet.NewWriter()
	w.Raw([]byte("abc"))
	first, second := w.Out(), w.Out()
	spoil(first)
	wantBytes(t, "another answer", second, 'a', 'b', 'c')
	wantBytes(t, "Out behind a spoilt answer", w.Out(), 'a', 'b', 'c')
	before := slices.Clone(second[:cap(second)])
	w.U64(0x0102030405060708)
	w.Raw(make([]byte, 100))
	wantBytes(t, "an answer and its room behind more writing", second[:cap(second)], before...)
	_ = append(second, 'x', 'y', 'z')
	wantBytes(t, "Out behind an answer appended to", w.Out()[:5], 'a', 'b', 'c', 1, 2)
}

// R4: what is handed to Raw is not kept and not changed, its spare room included.
func TestWriterRawKeepsNothing(t *testing.T) {
	w := octet.NewWriter()
	room := []byte("abcdef")
	w.Raw(room[:3])
	w.U8('x')
	wantErr(t, "Zeros", w.Zeros(1), api.OK)
	wantBytes(t, "what was handed in", room, []byte("abcdef")...)
	spoil(room)
	wantBytes(t, "Out", w.Out(), 'a', 'b', 'c', 'x', 0)
}

// R5, R9: two writers know nothing of one another.
func TestWritersAreApart(t *testing.T) {
	one, two := octet.NewWriter(), octet.NewWriter()
	for i := range 100 {
		one.U8(uint8(i))
		two.U16(uint16(i))
		if i == 50 {
			three := octet.NewWriter()
			three.Raw(bytes.Repeat([]byte{255}, 300))
		}
	}
	wantInt(t, "Len of one", one.Len(), 100)
	wantInt(t, "Len of two", two.Len(), 200)
	a, b := one.Out(), two.Out()
	for i := range 100 {
		if a[i] != byte(i) || b[2*i] != 0 || b[2*i+1] != byte(i) {
			t.Fatal("two writers mixed at", i)
		}
	}
}

// P1.1, R1: nothing is written on a nil writer, and on a zero one.
func TestWriterNilAndZero(t *testing.T) {
	var zero octet.Writer
	for _, w := range []*octet.Writer{nil, &zero, new(octet.Writer)} {
		w.U8(1)
		w.U16(1)
		w.U32(1)
		w.U64(1)
		w.Raw([]byte{1, 2})
		w.Raw(nil)
		for _, n := range []int{0, 5, -1, api.MaxInbox + 1} {
			wantErr(t, "Zeros", w.Zeros(n), api.ErrNil)
		}
		for _, s := range []string{"", "ab", "\x00", strings.Repeat("a", 4097)} {
			wantErr(t, "Text", w.Text(s), api.ErrNil)
		}
		wantInt(t, "Len", w.Len(), 0)
		wantBytes(t, "Out", w.Out())
	}
}

// Plain tells texts from what is none.
func TestPlain(t *testing.T) {
	for _, s := range texts() {
		if !octet.Plain(s) {
			t.Errorf("Plain(%q): false", s)
		}
	}
	for _, s := range notTexts() {
		if octet.Plain(s) {
			t.Errorf("Plain(%q): true", s)
		}
	}
	if !octet.Plain(strings.Repeat("é", 5000)) || octet.Plain(strings.Repeat("a", 5000)+"\x00") {
		t.Error("Plain of long strings")
	}
}

func TestPlainOfEveryRune(t *testing.T) {
	for r := rune(1); r <= 0x10ffff; r++ {
		if r == 0xd800 {
			r = 0xe000
		}
		if !octet.Plain(string(r)) {
			t.Fatalf("Plain of U+%04X: false", r)
		}
	}
}
