package reply_test

import (
	"reflect"
	"slices"
	"testing"

	"spindle/api"
	"spindle/reply"
)

// room gives a call whose lists have spare room behind them, all the way down.
func room(c call) call {
	c.s.Contexts = roomy(c.s.Contexts, 77)
	c.r.Data = roomy([]byte("payload"), 78)
	var l []api.Piece
	for _, p := range c.o.Pieces {
		p.Data = roomy(p.Data, 79)
		l = append(l, p)
	}
	c.o.Pieces = roomy(l, hole(80, 80))
	var r [][]api.StatusRun
	for _, runs := range c.o.Runs {
		r = append(r, roomy(runs, api.StatusRun{Len: 81, Flags: 81}))
	}
	c.o.Runs = roomy(r, list(82, 82))
	return c
}

// wholly is a call with all the spare room, told as lists of their full length.
func wholly(c call) call {
	c.s.Contexts = slices.Clone(full(c.s.Contexts))
	c.r.Data = slices.Clone(full(c.r.Data))
	c.o.Pieces = slices.Clone(full(c.o.Pieces))
	for i, p := range c.o.Pieces {
		c.o.Pieces[i].Data = slices.Clone(full(p.Data))
	}
	c.o.Runs = slices.Clone(full(c.o.Runs))
	for i, runs := range c.o.Runs {
		c.o.Runs[i] = slices.Clone(full(runs))
	}
	return c
}

// scrawl writes over all that was handed in, spare room included.
func scrawl(c call) {
	for _, p := range full(c.o.Pieces) {
		fill(p.Data, 0xee)
	}
	for _, runs := range full(c.o.Runs) {
		fill(runs, api.StatusRun{Len: 0xeeee, Flags: 0xeeee})
	}
	fill(c.o.Pieces, hole(0xeeee, 0xeeee))
	fill(c.o.Runs, list(0xeeee, 0xeeee))
	fill(c.s.Contexts, 0xeeee)
	fill(c.r.Data, 0xee)
}

func fill[T any](list []T, v T) {
	for i := range full(list) {
		full(list)[i] = v
	}
}

// copied is what was answered, in memory of its own.
func copied(a answers) answers {
	a.data, a.bytes, a.chunks = slices.Clone(a.data), slices.Clone(a.bytes), slices.Clone(a.chunks)
	for i, k := range a.chunks {
		a.chunks[i].Data = slices.Clone(k.Data)
	}
	return a
}

// R4: what is handed in is not changed, with the room behind it.
func TestHandedInIsNotChanged(t *testing.T) {
	d := dice(41)
	for range 40000 {
		c := room(thrown(&d))
		was := wholly(c)
		c.fits()
		c.structured()
		c.answers()
		if now := wholly(c); !reflect.DeepEqual(now, was) {
			t.Fatalf("%v: what was handed in has changed: %v", was, now)
		}
	}
}

// R4: nor is it kept: what is written over it afterwards changes no answer.
func TestAnswersAreNewMemory(t *testing.T) {
	d := dice(42)
	for range 40000 {
		c := room(thrown(&d))
		a := c.answers()
		was := copied(a)
		scrawl(c)
		if !reflect.DeepEqual(copied(a), was) {
			t.Fatalf("%v: an answer has changed with what was handed in", c)
		}
	}
}

// R4: and what is written over an answer, its spare room included, changes nothing that was handed in, no other answer and no other list of the same one.
func TestAnswersShareNothing(t *testing.T) {
	d := dice(43)
	for range 20000 {
		c := room(thrown(&d))
		was := wholly(c)
		a, other := c.answers(), c.answers()
		first := copied(a)
		fill(a.data, 0xee)
		fill(a.bytes, 0xee)
		for i := range a.chunks {
			fill(a.chunks[i].Data, 0xee)
			for j := i + 1; j < len(a.chunks); j++ {
				if !slices.Equal(a.chunks[j].Data, first.chunks[j].Data) {
					t.Fatalf("%v: the data of chunk %d are changed by those of chunk %d", c, j, i)
				}
			}
		}
		fill(a.chunks, api.Chunk{Flags: 0xeeee})
		if !reflect.DeepEqual(copied(other), first) {
			t.Fatalf("%v: another answer has changed", c)
		}
		if now := wholly(c); !reflect.DeepEqual(now, was) {
			t.Fatalf("%v: what was handed in has changed: %v", was, now)
		}
	}
}

// R4: the data of a read of one piece are not the piece's own, in whatever form they are told.
func TestOnePieceIsCopied(t *testing.T) {
	for _, s := range sessions() {
		for _, flags := range []uint16{0, api.FlagDF} {
			p := text(0, "abcd")
			c := call{s, flagged(ask(api.CmdRead, 0, 4), flags), pieces(p)}
			a := c.answers()
			was := copied(a)
			copy(p.Data, "wxyz")
			if !reflect.DeepEqual(copied(a), was) {
				t.Errorf("%v: an answer has changed with a piece", c)
			}
		}
	}
}

// R4, R5: two calls of one function answer different memory.
func TestTwiceTheSame(t *testing.T) {
	c := call{chunked, ask(api.CmdRead, 0, 4), pieces(hole(0, 2), text(2, "xy"))}
	one, _ := reply.Chunks(c.s, c.r, c.o)
	two, _ := reply.Chunks(c.s, c.r, c.o)
	one[0].Data[0], one[1].Flags = 9, 9
	wantChunks(t, "once more", c, two...)
	want(t, "its data", two[0].Data[0], 0)
	want(t, "its flags", two[1].Flags, api.ChunkDone)
}
