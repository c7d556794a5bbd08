package rule_test

import (
	"slices"
	"sync"
	"testing"

	"spindle/api"
	"spindle/rule"
)

// R1: zero values of everything: a CmdRead of no bytes.
func TestZeroValues(t *testing.T) {
	want(t, "Check", rule.Check(api.Export{}, api.Session{}, api.Limits{}, api.Request{}), api.EInval)
	for _, c := range append(eight(), strange()...) {
		code := api.EInval
		if c == api.CmdDisc || c == api.CmdFlush {
			code = 0
		}
		wantCheck(t, "zero values", asked{q: api.Request{Type: c}}, code)
	}
}

// P11.2: a request's Cookie and Data, be these fewer or more than its Length, are not looked at.
func TestCookieAndDataAreNotLookedAt(t *testing.T) {
	d := dice(99)
	for range 100000 {
		x := thrown(&d)
		code := x.check()
		for _, cookie := range []uint64{1, 512, top} {
			for _, data := range [][]byte{nil, {}, {1}, make([]byte, 512), make([]byte, 1024)} {
				x.q.Cookie, x.q.Data = cookie, data
				if got := x.check(); got != code {
					t.Fatalf("%v: %d, with other Cookie and Data %d", x, code, got)
				}
			}
		}
	}
}

// P11.2: nor is what no rule speaks of: names, kinds of exports, the session's number, other limits, which contexts there are.
func TestOthersAreNotLookedAt(t *testing.T) {
	d := dice(98)
	for range 100000 {
		x := thrown(&d)
		code := x.check()
		x.e.Name, x.e.Desc, x.e.Pref = "other", "\xff", 7
		x.e.Rotational, x.e.Private, x.e.Tracked = d.bool(), d.bool(), d.bool()
		x.s.Index = pick(&d, 1, -1, 99)
		x.l.Option, x.l.Flight = 1<<32-1, pick(&d, 0, -1, 64)
		if len(x.s.Contexts) > 0 {
			x.s.Contexts = pick(&d, []uint32{0}, []uint32{2, 3}, []uint32{9, 9, 9})
		} else if d.bool() {
			x.s.Contexts = []uint32{}
		}
		if got := x.check(); got != code {
			t.Fatalf("%v: %d, want %d", x, got, code)
		}
	}
}

// R4: what is handed in is not changed, with the room behind it.
func TestMemory(t *testing.T) {
	d := dice(97)
	for range 10000 {
		x := thrown(&d)
		x.s.Contexts = roomy(x.s.Contexts, 77)
		x.q.Data = roomy([]byte{1, 2, 3}, 88)
		contexts, data := slices.Clone(whole(x.s.Contexts)), slices.Clone(whole(x.q.Data))
		x.check()
		if !slices.Equal(whole(x.s.Contexts), contexts) || !slices.Equal(whole(x.q.Data), data) {
			t.Fatalf("%v: what was handed in has changed", x)
		}
	}
}

// R5, R9: nothing is kept: the same calls, in another order and from several goroutines, have the same answers.
func TestAgain(t *testing.T) {
	d := dice(96)
	var calls []asked
	var codes []uint32
	for range 20000 {
		x := thrown(&d)
		calls, codes = append(calls, x), append(codes, x.check())
	}
	var group sync.WaitGroup
	for range 4 {
		group.Go(func() {
			for i := len(calls) - 1; i >= 0; i-- {
				if got := calls[i].check(); got != codes[i] {
					t.Errorf("%v: %d, at first %d", calls[i], got, codes[i])
					return
				}
			}
		})
	}
	group.Wait()
}
