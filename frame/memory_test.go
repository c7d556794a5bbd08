package frame_test

import (
	"bytes"
	"fmt"
	"testing"

	"spindle/api"
)

// dataOf is the list that a message has, if it has one.
func dataOf(m any) []byte {
	switch x := m.(type) {
	case api.Option:
		return x.Data
	case api.OptionReply:
		return x.Data
	case api.Request:
		return x.Data
	case api.Reply:
		return x.Chunk.Data
	case []byte:
		return x
	}
	return nil
}

// R4: what is handed to Feed is not changed, with the room behind it, and not kept: neither what is held of it nor what is passed over.
func TestFeedMemory(t *testing.T) {
	x := fresh(t, 50)
	x.Feed(optionBytes(7, 5, nil))
	x.Option(4)
	var held []byte
	for _, n := range []int{12, 20, 0, 40} {
		b := roomy(many(n))
		before := bytes.Clone(whole(b))
		taken := x.Feed(b)
		wantBytes(t, "what was handed to Feed", whole(b), before)
		held = append(held, b[:taken]...)
		spoil(b, 0xee)
	}
	wantHolds(t, "what is held", x, 50, held[5:])
}

// R4: an inbox does not use the spare room of what it was fed first.
func TestFeedRoom(t *testing.T) {
	room := many(100)
	x := fresh(t, 100)
	x.Feed(room[:10])
	x.Feed([]byte("abcdefgh"))
	wantBytes(t, "the room", room, many(100))
	room[0] = 0xee
	wantHolds(t, "what is held", x, 100, join(many(10), []byte("abcdefgh")))
}

// R4: the bytes of a message are nobody else's: not those that are held, not those of the next one.
func TestCutMemory(t *testing.T) {
	for _, k := range kinds() {
		for i, s := range k.samples {
			what := fmt.Sprintf("%s %d", k.name, i)
			x := fed(t, join(s.bytes, s.bytes, []byte("behind")))
			first, _ := k.cut(x, max32)
			spoil(dataOf(first), 0xdd)
			second, c := k.cut(x, max32)
			wantCut(t, what+" behind one that was spoilt", second, c, s.message, api.CutDone)
			spoil(dataOf(first), 0xcc)
			x.Feed(s.bytes)
			b, c := x.Data(6)
			wantCut(t, what+": what is behind", b, c, []byte("behind"), api.CutDone)
			third, c := k.cut(x, max32)
			wantCut(t, what+" that came later", third, c, s.message, api.CutDone)
			spoil(dataOf(third), 0xbb)
			spoil(b, 0xaa)
			x.Feed(bytes.Repeat([]byte{0x99}, 3000))
			wantCut(t, what+" that was cut before", second, c, s.message, api.CutDone)
			wantHolds(t, what+": what is held", x, plenty, bytes.Repeat([]byte{0x99}, 3000))
		}
	}
}

// R4: likewise Data, of which what is answered may be appended to.
func TestDataMemory(t *testing.T) {
	x := fresh(t, 30)
	x.Feed([]byte("abcdefghij"))
	first, _ := x.Data(3)
	second, _ := x.Data(3)
	none, _ := x.Data(0)
	_ = append(none, "0123"...)
	_ = append(first, "456789"...)
	spoil(first, 0xee)
	spoil(none, 0xdd)
	wantBytes(t, "another answer", second, []byte("def"))
	x.Feed([]byte("klm"))
	spoil(second, 0xcc)
	wantHolds(t, "what is held", x, 30, []byte("ghijklm"))
}

// R4: what was answered stays as it is while the inbox goes on.
func TestAnswersStay(t *testing.T) {
	x := fresh(t, 64)
	var got [][]byte
	for i := range 200 {
		x.Feed(bytes.Repeat([]byte{byte(i)}, 16))
		b, _ := x.Data(16)
		got = append(got, b)
	}
	for i, b := range got {
		wantBytes(t, fmt.Sprint("answer ", i), b, bytes.Repeat([]byte{byte(i)}, 16))
	}
}
