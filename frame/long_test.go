package frame_test

import (
	"fmt"
	"testing"

	"spindle/api"
	"spindle/frame"
)

// wantPasses looks that no cut does anything, since there are bytes to pass over, and that nothing is held.
func wantPasses(t *testing.T, what string, x *frame.Inbox, room int) {
	t.Helper()
	for _, most := range []uint32{0, 64, max32} {
		everyCut(x, most, func(name string, m any, c api.Cut, zero any) {
			t.Helper()
			wantCut(t, what+": "+name, m, c, zero, api.CutMore)
		})
	}
	wantStands(t, what, x, room, 0)
}

// P9.4: a length above most: the head is cut, and what of the bytes behind is held is gone: none, some, all, and all with others behind.
func TestLongOption(t *testing.T) {
	const most, length = 64, 100
	long := api.Option{Code: 7, Len: length, Long: true}
	list := optionBytes(3, 0, nil)
	for there := range length + len(list) + 1 {
		what := fmt.Sprintf("%d bytes are there", there)
		row := join(optionBytes(7, length, many(length)), list)
		x := fed(t, row[:16+there])
		o, c := x.Option(most)
		wantCut(t, what, o, c, long, api.CutDone)
		wantStands(t, what, x, plenty, max(0, there-length))
		if there < length {
			wantPasses(t, what, x, plenty)
		}
		rest := row[16+there:]
		want(t, what+": the rest", x.Feed(rest), len(rest))
		wantStands(t, what+", the rest too", x, plenty, len(list))
		o, c = x.Option(most)
		wantCut(t, what+", the option behind it", o, c, api.Option{Code: 3}, api.CutDone)
		wantStands(t, what+", the option behind it", x, plenty, 0)
	}
}

// P9.4: short of its head nothing is cut, whatever it says.
func TestLongOptionShortOfItsHead(t *testing.T) {
	head := optionBytes(7, max32, nil)
	for n := range head {
		x := fed(t, head[:n])
		o, c := x.Option(0)
		wantCut(t, fmt.Sprintf("%d bytes", n), o, c, api.Option{}, api.CutMore)
		wantHolds(t, fmt.Sprintf("%d bytes", n), x, plenty, head[:n])
	}
}

// P9.4: at most, one above it, and the other edges of most.
func TestOptionAtMost(t *testing.T) {
	for _, length := range []uint32{0, 1, 2, 63, 64, 65, 300} {
		for _, most := range []uint32{0, 1, 62, 63, 64, 65, 299, 300, max32} {
			what := fmt.Sprintf("Len %d, most %d", length, most)
			x := fed(t, join(optionBytes(5, length, many(int(length))), []byte("xyz")))
			o, c := x.Option(most)
			if length > most {
				wantCut(t, what, o, c, api.Option{Code: 5, Len: length, Long: true}, api.CutDone)
			} else {
				wantCut(t, what, o, c, api.Option{Code: 5, Len: length, Data: many(int(length))}, api.CutDone)
			}
			wantHolds(t, what, x, plenty, []byte("xyz"))
		}
	}
}

// P9.4: a Len of 0 is not too long where most is 0, and one of 1 is.
func TestOptionWithoutBytes(t *testing.T) {
	x := fed(t, optionBytes(9, 0, nil))
	o, c := x.Option(0)
	wantCut(t, "Len 0", o, c, api.Option{Code: 9}, api.CutDone)
	b, c := x.Data(0)
	wantCut(t, "nothing is to be passed over", b, c, []byte(nil), api.CutDone)
	want(t, "Feed", x.Feed([]byte("a")), 1)
	wantHolds(t, "what comes is held", x, plenty, []byte("a"))

	x = fed(t, optionBytes(9, 1, nil))
	o, c = x.Option(0)
	wantCut(t, "Len 1", o, c, api.Option{Code: 9, Len: 1, Long: true}, api.CutDone)
	wantPasses(t, "Len 1", x, plenty)
	want(t, "Feed", x.Feed([]byte("ab")), 2)
	wantHolds(t, "all but the first is held", x, plenty, []byte("b"))
}

// P9.2, P9.4: what is passed over needs no room: it may be more than the room, and comes ahead of what does.
func TestPassedOverNeedsNoRoom(t *testing.T) {
	for _, room := range []int{16, 17, 40} {
		for _, length := range []int{1, room - 1, room, room + 1, 1000} {
			for _, more := range []int{0, 1, room - 1, room, room + 1, 3 * room} {
				x := fresh(t, room)
				x.Feed(optionBytes(7, uint32(length), nil))
				o, c := x.Option(0)
				what := fmt.Sprintf("a room of %d, %d to pass over, %d behind", room, length, more)
				wantCut(t, what, o, c, api.Option{Code: 7, Len: uint32(length), Long: true}, api.CutDone)
				kept := min(more, room)
				want(t, what, x.Feed(join(make([]byte, length), many(more))), length+kept)
				wantHolds(t, what, x, room, many(more)[:kept])
			}
		}
	}
}

// P9.2, P9.4: what is passed over comes in pieces, of none and of one and of several bytes; the last one ends with it, or goes on.
func TestPassedOverInPieces(t *testing.T) {
	const room, length = 30, 100
	for size := 1; size <= length+1; size++ {
		x := fresh(t, room)
		x.Feed(optionBytes(7, length, many(10)))
		x.Option(99)
		left := length - 10
		what := fmt.Sprintf("pieces of %d", size)
		for left > size {
			wantPasses(t, what, x, room)
			want(t, what+", of none", x.Feed(nil), 0)
			want(t, what, x.Feed(many(size)), size)
			left -= size
		}
		wantPasses(t, what, x, room)
		want(t, what+", the last one", x.Feed(many(left)), left)
		wantStands(t, what+", the last one", x, room, 0)
		b, c := x.Data(0)
		wantCut(t, what+", nothing is left to pass over", b, c, []byte(nil), api.CutDone)
		want(t, what+", what comes behind", x.Feed(many(room+1)), room)
		wantHolds(t, what+", what comes behind", x, room, many(room))
	}
}

// P9.4: options that are too long, one behind the other, and magics in their bytes, which nobody looks at.
func TestLongOptionsInOrder(t *testing.T) {
	inner := join(optionBytes(1, 2, nil), optionBytes(2, 0, nil), make([]byte, 60))
	var row []byte
	for code := range uint32(5) {
		row = join(row, optionBytes(code, uint32(len(inner)), inner), optionBytes(100+code, 3, many(3)))
	}
	for size := 1; size <= len(row); size++ {
		what := fmt.Sprintf("pieces of %d", size)
		x := fresh(t, 100)
		var got []api.Option
		for at := 0; at < len(row); {
			at = pour(t, what, x, row, at, size)
			for o, c := x.Option(64); c == api.CutDone && len(got) <= 10; o, c = x.Option(64) {
				got = append(got, o)
			}
		}
		want(t, what+": options", len(got), 10)
		for i, o := range got {
			wanted := api.Option{Code: uint32(i / 2), Len: uint32(len(inner)), Long: true}
			if i%2 == 1 {
				wanted = api.Option{Code: uint32(100 + i/2), Len: 3, Data: many(3)}
			}
			wantCut(t, what, o, api.CutDone, wanted, api.CutDone)
		}
		wantStands(t, what, x, 100, 0)
	}
}

// P9.4: the greatest lengths that a head can say.
func TestLongOptionOfHugeLength(t *testing.T) {
	row := make([]byte, 1<<20)
	for _, length := range []uint32{1<<31 - 1, 1 << 31, 1<<31 + 1, max32 - 1, max32} {
		for _, most := range []uint32{0, 65536, length - 1} {
			x := fresh(t, 40)
			x.Feed(optionBytes(7, length, many(24)))
			o, c := x.Option(most)
			what := fmt.Sprintf("Len %d, most %d", length, most)
			wantCut(t, what, o, c, api.Option{Code: 7, Len: length, Long: true}, api.CutDone)
			for range 100 {
				if n := x.Feed(row); n != len(row) {
					t.Fatalf("%s: Feed of %d bytes to pass over: %d", what, len(row), n)
				}
			}
			wantPasses(t, what, x, 40)
		}
		x := fed(t, optionBytes(7, length, many(24)))
		o, c := x.Option(length)
		wantCut(t, fmt.Sprintf("Len %d, most the same", length), o, c, api.Option{}, api.CutMore)
		wantStands(t, "most the same", x, plenty, 40)
	}
}

// P9.4: to the last byte of a length of more than one byte's and two bytes' worth.
func TestLongOptionToItsLastByte(t *testing.T) {
	for _, length := range []int{255, 256, 257, 65535, 65536, 65537, 1<<24 + 1} {
		x := fresh(t, 40)
		x.Feed(optionBytes(7, uint32(length), nil))
		x.Option(64)
		what := fmt.Sprintf("Len %d", length)
		want(t, what, x.Feed(make([]byte, length-1)), length-1)
		wantPasses(t, what, x, 40)
		want(t, what+", the last one and another", x.Feed([]byte("ab")), 2)
		wantHolds(t, what, x, 40, []byte("b"))
	}
}

// P9.4: only an option is cut so; what it says to OptionReply is another magic.
func TestLongOptionAskedOtherwise(t *testing.T) {
	row := optionBytes(7, 100, many(10))
	x := fed(t, row)
	r, c := x.OptionReply(0)
	wantCut(t, "OptionReply", r, c, api.OptionReply{}, api.CutBad)
	q, c := x.Request(0, false)
	wantCut(t, "Request", q, c, api.Request{}, api.CutMore)
	wantHolds(t, "asked otherwise", x, plenty, row)
}
