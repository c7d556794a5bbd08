package octet_test

import (
	"math"
	"math/rand"
	"slices"
	"strings"
	"testing"

	"spindle/api"
	"spindle/octet"
)

// wantPlace asks where a reader stands.
func wantPlace(t *testing.T, what string, r *octet.Reader, at, left int) {
	t.Helper()
	if r.At() != at || r.Left() != left {
		t.Errorf("%s: At %d, Left %d, want %d, %d", what, r.At(), r.Left(), at, left)
	}
	end := api.OK
	if left > 0 {
		end = api.ErrTail
	}
	wantErr(t, what+": End", r.End(), end)
}

// Example 2 of the chapter.
func TestExampleReader(t *testing.T) {
	r := octet.NewReader([]byte{1, 2, 7})
	if v, e := r.U32(); v != 0 || e != api.ErrShort {
		t.Error("U32:", v, e)
	}
	if v, e := r.U16(); v != 258 || e != api.OK {
		t.Error("U16:", v, e)
	}
	wantPlace(t, "behind U16", r, 2, 1)
	b, e := r.Raw(2)
	wantErr(t, "Raw(2)", e, api.ErrShort)
	wantBytes(t, "Raw(2)", b)
	b, e = r.Raw(0)
	wantErr(t, "Raw(0)", e, api.OK)
	wantBytes(t, "Raw(0)", b)
	if v, e := r.U8(); v != 7 || e != api.OK {
		t.Error("U8:", v, e)
	}
	wantPlace(t, "behind all", r, 3, 0)
}

// Example 3 of the chapter.
func TestExampleReaderText(t *testing.T) {
	wantText := func(r *octet.Reader, most int, s string, want api.Errno) {
		t.Helper()
		at := r.At()
		got, e := r.Text(most)
		if got != s || e != want {
			t.Errorf("Text(%d): %q, error %d, want %q, %d", most, got, e, s, want)
		}
		if e != api.OK && r.At() != at {
			t.Errorf("Text(%d): At %d, was %d", most, r.At(), at)
		}
	}
	r := octet.NewReader([]byte{0, 0, 0, 2, 97, 98})
	wantText(r, -1, "", api.ErrLong)
	wantText(r, 1, "", api.ErrLong)
	wantText(r, 2, "ab", api.OK)
	wantPlace(t, "behind the text", r, 6, 0)
	wantText(octet.NewReader([]byte{0, 0, 0, 9, 97}), 9, "", api.ErrShort)
	wantText(octet.NewReader([]byte{0, 0, 0, 1, 255}), 5, "", api.ErrText)
}

// P1.2: numbers, the highest byte first, from place 0 on.
func TestReaderNumbers(t *testing.T) {
	r := octet.NewReader([]byte{0xa1, 0xb1, 0xb2, 0xc1, 0xc2, 0xc3, 0xc4, 0xd1, 0xd2, 0xd3, 0xd4, 0xd5, 0xd6, 0xd7, 0xd8})
	wantPlace(t, "at first", r, 0, 15)
	if v, e := r.U8(); v != 0xa1 || e != api.OK {
		t.Error("U8:", v, e)
	}
	wantPlace(t, "behind U8", r, 1, 14)
	if v, e := r.U16(); v != 0xb1b2 || e != api.OK {
		t.Error("U16:", v, e)
	}
	wantPlace(t, "behind U16", r, 3, 12)
	if v, e := r.U32(); v != 0xc1c2c3c4 || e != api.OK {
		t.Error("U32:", v, e)
	}
	wantPlace(t, "behind U32", r, 7, 8)
	if v, e := r.U64(); v != 0xd1d2d3d4d5d6d7d8 || e != api.OK {
		t.Error("U64:", v, e)
	}
	wantPlace(t, "behind U64", r, 15, 0)
}

// readNumber reads a number of so many bytes.
func readNumber(r *octet.Reader, size int) (uint64, api.Errno) {
	switch size {
	case 1:
		v, e := r.U8()
		return uint64(v), e
	case 2:
		v, e := r.U16()
		return uint64(v), e
	case 4:
		v, e := r.U32()
		return uint64(v), e
	}
	return r.U64()
}

// P1.2: a number of which bytes are missing is none, and the reader stays where it was.
func TestReaderNumbersShort(t *testing.T) {
	for _, size := range []int{1, 2, 4, 8} {
		for have := range size {
			for _, ahead := range []int{0, 1, 5} {
				r := octet.NewReader(slices.Repeat([]byte{255}, ahead+have))
				if _, e := r.Raw(ahead); e != api.OK {
					t.Fatal("Raw:", e)
				}
				if v, e := readNumber(r, size); v != 0 || e != api.ErrShort {
					t.Errorf("%d bytes of %d: %d, error %d", have, size, v, e)
				}
				wantPlace(t, "behind a short number", r, ahead, have)
				if b, e := r.Raw(have); len(b) != have || e != api.OK {
					t.Error("what was left:", b, e)
				}
			}
		}
		r := octet.NewReader(slices.Repeat([]byte{255}, size))
		if v, e := readNumber(r, size); v != math.MaxUint64>>(64-8*size) || e != api.OK {
			t.Errorf("the greatest of %d bytes: %d, error %d", size, v, e)
		}
		wantPlace(t, "behind a number that just fits", r, size, 0)
	}
}

// P1.2: Raw, at its edges.
func TestReaderRaw(t *testing.T) {
	for _, at := range []int{0, 1, 3} {
		r := octet.NewReader([]byte{5, 6, 7, 8})
		b, e := r.Raw(at)
		wantErr(t, "Raw", e, api.OK)
		wantBytes(t, "Raw", b, []byte{5, 6, 7, 8}[:at]...)
		for _, n := range []int{-1, -2, -at, math.MinInt32, math.MinInt} {
			if n == 0 {
				continue
			}
			b, e := r.Raw(n)
			wantErr(t, "Raw of fewer than none", e, api.ErrArg)
			wantBytes(t, "Raw of fewer than none", b)
		}
		for _, n := range []int{5 - at, 6 - at, 1 << 20, math.MaxInt32, math.MaxInt - 1, math.MaxInt} {
			b, e := r.Raw(n)
			wantErr(t, "Raw of more than are left", e, api.ErrShort)
			wantBytes(t, "Raw of more than are left", b)
		}
		wantPlace(t, "behind what was refused", r, at, 4-at)
		b, e = r.Raw(4 - at)
		wantErr(t, "Raw of all", e, api.OK)
		wantBytes(t, "Raw of all", b, []byte{5, 6, 7, 8}[at:]...)
		wantPlace(t, "behind all", r, 4, 0)
		b, e = r.Raw(0)
		wantErr(t, "Raw(0) at the end", e, api.OK)
		wantBytes(t, "Raw(0) at the end", b)
		_, e = r.Raw(1)
		wantErr(t, "Raw(1) at the end", e, api.ErrShort)
		_, e = r.Raw(-1)
		wantErr(t, "Raw(-1) at the end", e, api.ErrArg)
	}
}

func TestReaderOfNoBytes(t *testing.T) {
	for _, b := range [][]byte{nil, {}} {
		r := octet.NewReader(b)
		wantPlace(t, "no bytes", r, 0, 0)
		for _, size := range []int{1, 2, 4, 8} {
			_, e := readNumber(r, size)
			wantErr(t, "a number of no bytes", e, api.ErrShort)
		}
		_, e := r.Text(9)
		wantErr(t, "Text of no bytes", e, api.ErrShort)
		_, e = r.Raw(0)
		wantErr(t, "Raw(0) of no bytes", e, api.OK)
		wantPlace(t, "no bytes, asked", r, 0, 0)
	}
}

// textBytes is a text of the length that is told, with s behind it.
func textBytes(size uint32, s string) []byte {
	return append([]byte{byte(size >> 24), byte(size >> 16), byte(size >> 8), byte(size)}, s...)
}

// P1.2: the errors of Text, each ahead of those behind it, and the reader where it was.
func TestReaderTextErrors(t *testing.T) {
	cases := []struct {
		what string
		b    []byte
		most int
		want api.Errno
	}{
		{"no length", []byte{0, 0, 0}, 9, api.ErrShort},
		{"no length, none may be", []byte{0, 0, 0}, -1, api.ErrShort},
		{"no length, wrong bytes", []byte{255, 255, 255}, 0, api.ErrShort},
		{"empty, none may be", textBytes(0, ""), -1, api.ErrLong},
		{"empty, none may be, by far", textBytes(0, ""), math.MinInt, api.ErrLong},
		{"none may be", textBytes(2, "ab"), math.MinInt32, api.ErrLong},
		{"one past", textBytes(1, "a"), 0, api.ErrLong},
		{"one past, more there", textBytes(6, "abcdefgh"), 5, api.ErrLong},
		{"long and short", textBytes(9, "a"), 8, api.ErrLong},
		{"long and no text", textBytes(2, "\xff\xff"), 1, api.ErrLong},
		{"the greatest length, little may be", textBytes(math.MaxUint32, "a"), 100, api.ErrLong},
		{"the greatest length, one less may be", textBytes(math.MaxUint32, "a"), math.MaxUint32 - 1, api.ErrLong},
		{"the greatest length", textBytes(math.MaxUint32, "a"), math.MaxUint32, api.ErrShort},
		{"the greatest length, all may be", textBytes(math.MaxUint32, "a"), math.MaxInt, api.ErrShort},
		{"the highest bit", textBytes(1<<31, "a"), math.MaxInt, api.ErrShort},
		{"the highest bit, little may be", textBytes(1<<31, "a"), 9, api.ErrLong},
		{"one short", textBytes(3, "ab"), 3, api.ErrShort},
		{"all short", textBytes(1, ""), 1, api.ErrShort},
		{"short by what the length takes", textBytes(6, "ab"), 6, api.ErrShort},
		{"short and no text", textBytes(3, "\xff\x00"), 3, api.ErrShort},
	}
	for _, s := range notTexts() {
		cases = append(cases, struct {
			what string
			b    []byte
			most int
			want api.Errno
		}{"no text", textBytes(uint32(len(s)), s+"tail"), len(s), api.ErrText})
	}
	for _, c := range cases {
		for _, ahead := range []int{0, 3} {
			r := octet.NewReader(append(make([]byte, ahead), c.b...))
			if _, e := r.Raw(ahead); e != api.OK {
				t.Fatal("Raw:", e)
			}
			s, e := r.Text(c.most)
			if s != "" || e != c.want {
				t.Errorf("%s: %q, error %d, want %d", c.what, s, e, c.want)
			}
			wantPlace(t, c.what, r, ahead, len(c.b))
			if v, e := r.U8(); v != c.b[0] || e != api.OK {
				t.Errorf("%s: the next byte: %d, error %d", c.what, v, e)
			}
		}
	}
}

// P1.2: texts that are taken, at their edges.
func TestReaderText(t *testing.T) {
	for _, s := range append(texts(), strings.Repeat("a", api.MaxText), strings.Repeat("a", api.MaxText+1), strings.Repeat("é", 70000)) {
		for _, most := range []int{len(s), len(s) + 1, math.MaxUint32, math.MaxInt} {
			r := octet.NewReader(append(textBytes(uint32(len(s)), s), 9, 0))
			got, e := r.Text(most)
			if got != s || e != api.OK {
				t.Errorf("Text(%d) of %d bytes: %d bytes, error %d", most, len(s), len(got), e)
			}
			wantPlace(t, "behind a text", r, 4+len(s), 2)
		}
	}
}

// R4: a reader reads its own copy, and changes nothing.
func TestReaderReadsItsOwnCopy(t *testing.T) {
	room := []byte{0, 0, 0, 1, 'a', 6, 7, 8}
	r := octet.NewReader(room[:6])
	wantPlace(t, "the room behind is not read", r, 0, 6)
	spoil(room)
	if s, e := r.Text(1); s != "a" || e != api.OK {
		t.Error("Text:", s, e)
	}
	if v, e := r.U8(); v != 6 || e != api.OK {
		t.Error("U8:", v, e)
	}
	wantPlace(t, "behind all", r, 6, 0)
	wantBytes(t, "what was handed in", room, 255, 255, 255, 254, ^byte('a'), 249, 248, 247)
}

// R4: what Raw answers is new memory.
func TestReaderRawIsNewMemory(t *testing.T) {
	given := []byte{1, 2, 3, 4, 5, 6}
	r := octet.NewReader(given)
	a, _ := r.Raw(2)
	kept := slices.Clone(a)
	_ = append(a, 99, 99)
	spoil(a)
	b, _ := r.Raw(2)
	wantBytes(t, "bytes behind a spoilt answer", b, 3, 4)
	spoil(b)
	wantBytes(t, "an answer behind another one that was spoilt", a, ^kept[0], ^kept[1])
	if v, e := r.U16(); v != 0x0506 || e != api.OK {
		t.Error("U16 behind spoilt answers:", v, e)
	}
	wantBytes(t, "what was handed in", given, 1, 2, 3, 4, 5, 6)
}

// R5, R9: two readers know nothing of one another, though they were handed the same bytes.
func TestReadersAreApart(t *testing.T) {
	b := []byte{1, 2, 3, 4}
	one, two := octet.NewReader(b), octet.NewReader(b)
	if v, e := one.U16(); v != 0x0102 || e != api.OK {
		t.Error("U16 of one:", v, e)
	}
	wantPlace(t, "one", one, 2, 2)
	wantPlace(t, "two", two, 0, 4)
	if v, e := two.U32(); v != 0x01020304 || e != api.OK {
		t.Error("U32 of two:", v, e)
	}
	wantPlace(t, "one, behind two", one, 2, 2)
}

// R1: a nil reader, and a zero one.
func TestReaderNilAndZero(t *testing.T) {
	var zero octet.Reader
	for _, r := range []*octet.Reader{nil, &zero, new(octet.Reader)} {
		for _, size := range []int{1, 2, 4, 8} {
			if v, e := readNumber(r, size); v != 0 || e != api.ErrNil {
				t.Error("a number:", v, e)
			}
		}
		for _, n := range []int{0, 1, -1, math.MaxInt} {
			b, e := r.Raw(n)
			wantErr(t, "Raw", e, api.ErrNil)
			wantBytes(t, "Raw", b)
			s, e := r.Text(n)
			wantErr(t, "Text", e, api.ErrNil)
			wantInt(t, "bytes of Text", len(s), 0)
		}
		wantInt(t, "At", r.At(), 0)
		wantInt(t, "Left", r.Left(), 0)
		wantErr(t, "End", r.End(), api.ErrNil)
	}
}

// thing is something that a writer lays down and a reader takes up.
type thing struct {
	size int // of a number: its bytes; 0: bytes as they are; -1: a text; -2: zeros
	v    uint64
	b    []byte
	s    string
}

func randomThing(rnd *rand.Rand) thing {
	size := []int{1, 2, 4, 8, 0, -1, -2}[rnd.Intn(7)]
	switch size {
	case 0:
		b := make([]byte, rnd.Intn(20))
		rnd.Read(b)
		return thing{b: b}
	case -1:
		return thing{size: size, s: strings.Repeat(texts()[rnd.Intn(len(texts()))], rnd.Intn(4))}
	case -2:
		return thing{size: size, b: make([]byte, rnd.Intn(20))}
	}
	return thing{size: size, v: rnd.Uint64() >> (64 - 8*size)}
}

func (x thing) write(w *octet.Writer) api.Errno {
	switch x.size {
	case 0:
		w.Raw(x.b)
	case -1:
		return w.Text(x.s)
	case -2:
		return w.Zeros(len(x.b))
	case 1:
		w.U8(uint8(x.v))
	case 2:
		w.U16(uint16(x.v))
	case 4:
		w.U32(uint32(x.v))
	default:
		w.U64(x.v)
	}
	return api.OK
}

// back tells whether the reader reads the thing again.
func (x thing) back(r *octet.Reader) bool {
	switch x.size {
	case 0, -2:
		b, e := r.Raw(len(x.b))
		return string(b) == string(x.b) && e == api.OK
	case -1:
		s, e := r.Text(api.MaxText)
		return s == x.s && e == api.OK
	}
	v, e := readNumber(r, x.size)
	return v == x.v && e == api.OK
}

// P1.3: what was laid down is read again, and nothing is left.
func TestThereAndBack(t *testing.T) {
	rnd := rand.New(rand.NewSource(1))
	for range 500 {
		w := octet.NewWriter()
		var things []thing
		var ends []int
		for range rnd.Intn(30) {
			x := randomThing(rnd)
			wantErr(t, "writing", x.write(w), api.OK)
			things, ends = append(things, x), append(ends, w.Len())
		}
		r := octet.NewReader(w.Out())
		for i, x := range things {
			if !x.back(r) {
				t.Fatalf("thing %d of %+v did not come back", i, things)
			}
			wantPlace(t, "behind a thing", r, ends[i], w.Len()-ends[i])
		}
		wantErr(t, "End", r.End(), api.OK)
	}
}
