package reply_test

import (
	"reflect"
	"sync"
	"testing"

	"spindle/api"
)

// R1: zero values of everything: a read of no bytes, simple.
func TestZeroValues(t *testing.T) {
	wantFits(t, "zero values", call{})
	wantSimple(t, "zero values", call{}, 0, "")
	wantBytes(t, "zero values", call{}, lay(uint32(0x67446698), uint32(0), uint64(0)))
	wantOutcome(t, "a zero status", call{r: api.Request{Type: api.CmdStatus}})
	wantOutcome(t, "a zero piece", call{o: pieces(api.Piece{})})
	wantOutcome(t, "a zero list", call{o: lists(nil)})
}

// P12.1: of the request its Data, be these fewer or more than its Length, and of the session its Index are not looked at.
func TestNothingElseIsLookedAt(t *testing.T) {
	d := dice(51)
	for range 20000 {
		c := thrown(&d)
		fits, inChunks, a := c.fits(), c.structured(), c.answers()
		for _, data := range [][]byte{{}, {1}, make([]byte, 512)} {
			for _, index := range []int{1, -1, 1 << 62, -1 << 63} {
				c.r.Data, c.s.Index = data, index
				if c.fits() != fits || c.structured() != inChunks || !reflect.DeepEqual(c.answers(), a) {
					t.Fatalf("%v: another answer with other Data and Index", c)
				}
			}
		}
	}
}

// P12.1, P12.4: nor are a session's contexts but of a status that went well, nor flags but FlagDF of a read and FlagOne of a status, nor a range but where the answer tells of it.
func TestWhatAnAnswerHangsOn(t *testing.T) {
	d := dice(52)
	for range 40000 {
		c := thrown(&d)
		fits, a := c.fits(), c.answers()
		if c.r.Type != api.CmdStatus || c.o.Code != 0 {
			c.s.Contexts = pick(&d, nil, []uint32{}, []uint32{5}, []uint32{5, 5, 5, 5})
		}
		c.r.Flags ^= 65535
		switch {
		case c.o.Code != 0:
		case c.r.Type == api.CmdRead:
			c.r.Flags ^= api.FlagDF
		case c.r.Type == api.CmdStatus:
			c.r.Flags ^= api.FlagOne
		}
		if c.o.Code == 0 && c.r.Type != api.CmdRead && c.r.Type != api.CmdStatus {
			c.r.Length = pick[uint64](&d, 0, 1, top)
		}
		if !c.s.Extended && c.r.Type != api.CmdRead && !c.o.Placed {
			c.r.Offset = pick[uint64](&d, 0, 1, top)
		}
		if c.fits() != fits || !reflect.DeepEqual(c.answers(), a) {
			t.Fatalf("%v: another answer", c)
		}
	}
}

// R5, R9: nothing is kept: the same calls, in another order and from several goroutines, have the same answers.
func TestAgain(t *testing.T) {
	d := dice(53)
	var calls []call
	var got []answers
	for range 10000 {
		c := thrown(&d)
		calls, got = append(calls, c), append(got, c.answers())
	}
	var group sync.WaitGroup
	for range 4 {
		group.Go(func() {
			for i := len(calls) - 1; i >= 0; i-- {
				if !reflect.DeepEqual(calls[i].answers(), got[i]) {
					t.Errorf("%v: another answer than at first", calls[i])
					return
				}
			}
		})
	}
	group.Wait()
}
