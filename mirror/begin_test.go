package mirror_test

import (
	"slices"
	"strings"
	"testing"

	"spindle/api"
)

// A stage is a desk with members in given states, told by their first letters, at which nothing is in work; and the cookie that each open one's next request has. All that are not whole miss the byte 0, but for the stale one to whom something is copied, of which it may be no more.
type stage struct {
	*desk
	cookies []uint64
}

// setStage gives one. Where there is a whole member and a stale one, something is copied: end ends that, so that what waits begins.
func setStage(t *testing.T, letters string) *stage {
	t.Helper()
	s := &stage{opened(t, letters, len(letters)), make([]uint64, len(letters))}
	for k := range letters {
		s.cookies[k] = 1
	}
	keeper := max(0, strings.IndexByte(letters, 'w'))
	for k := range letters {
		if letters[k] != 'w' && k != keeper {
			s.lost(k)
		}
	}
	s.write(0, []byte("x"))
	if letters[keeper] != 'w' {
		s.lost(keeper) // it misses the byte, too
	}
	for k := range letters {
		if letters[k] == 'w' {
			s.say(k)
			s.hear(k, well(1))
			s.cookies[k] = 2
		}
	}
	s.done()
	for k := range letters {
		switch letters[k] {
		case 'j':
			s.chooses(k)
		case 's':
			s.opens(k)
			s.cookies[k] = 1
		}
	}
	s.wantStates(letters)
	return s
}

// end lets what is copied be copied, if something is.
func (s *stage) end() {
	s.t.Helper()
	l := s.m.Look()
	if l.Copying < 0 {
		return
	}
	from := slices.Index(l.Members, api.MemberWhole)
	s.wantSay(from, readBytes(s.cookies[from], 0, 1))
	s.hear(from, well(s.cookies[from], 'x'))
	s.cookies[from]++
	s.wantSay(l.Copying, writeBytes(s.cookies[l.Copying], 0, []byte("x")))
	s.hear(l.Copying, well(s.cookies[l.Copying]))
	s.cookies[l.Copying]++
}

// P24.4: how each kind of operation begins, with members in every state: without a whole one it ends at once, and nothing is asked or missed; a read asks the first whole one; all else asks all that are open, and a write and a zero are missed by all others.
func TestHowOperationsBegin(t *testing.T) {
	for members := 1; members <= 4; members++ {
		for _, letters := range words("wsjo", members) {
			for _, kind := range kinds {
				s := setStage(t, letters)
				s.what = kind + " of " + letters
				s.do(kind)
				s.end()
				if !strings.Contains(letters, "w") {
					s.wantDone(wentWrong(2))
					s.wantQuiet()
					for k := range letters {
						s.wantMissed(k, 0, 1)
					}
					continue
				}
				s.wantDone()
				s.wantWaiting(1, -1)
				for k := range letters {
					s.wantBegun(kind, letters, k)
				}
			}
		}
	}
}

// wantBegun looks at one member when an operation has begun.
func (s *stage) wantBegun(kind, letters string, k int) {
	s.t.Helper()
	open := letters[k] == 'w' || letters[k] == 's'
	asked := open && kind != "Read" || k == strings.IndexByte(letters, 'w')
	if asked {
		s.wantSay(k, bytesOf(kind, s.cookies[k]))
	} else {
		s.wantSay(k)
	}
	switch {
	case letters[k] == 'w' || k == strings.IndexByte(letters, 's'):
		s.wantMissed(k)
	case open || kind == "Read" || kind == "Flush":
		s.wantMissed(k, 0, 1)
	default:
		s.wantMissed(k, 0, 1, 300, 304)
	}
}

// P24.4: one that joins, or is open, while an operation is in work is not asked for it, but for the next one.
func TestMembersThatComeLater(t *testing.T) {
	for _, kind := range kinds {
		d := opened(t, kind, 2)
		d.lost(1)
		d.do(kind)
		d.zero(0, 10)
		d.wantSay(0, bytesOf(kind, 1))
		d.opens(1)
		stale := kind == "Write" || kind == "Zero"
		if stale {
			d.wantStates("ws")
			d.wantMissed(1, 300, 304)
		} else {
			d.wantStates("ww")
			d.wantMissed(1)
		}
		d.wantQuiet()
		answer, told := answerTo(kind, 1)
		d.hear(0, answer)
		d.wantDone(api.MirrorDone{ID: 1, Data: told})
		d.wantSay(0, zeroBytes(2, 0, 10))
		d.wantSay(1, zeroBytes(1, 0, 10))
		d.hear(1, well(1))
		d.hear(0, well(2))
		d.wantDone(wentWell(2))
		if stale {
			d.wantWaiting(0, 1)
			d.wantSay(0, readBytes(3, 300, 4))
			d.wantSay(1)
		} else {
			d.wantWaiting(0, -1)
			d.wantQuiet()
		}
	}
}

// P24.4: a write of bytes that were zeroed, and one that reaches over others: what is missed is one set.
func TestWhatIsMissed(t *testing.T) {
	d := opened(t, "what is missed", 2)
	d.lost(1)
	for _, x := range []struct {
		do   func()
		ends []int64
	}{
		{func() { d.write(100, many(100, 0)) }, []int64{100, 200}},
		{func() { d.read(0, 50) }, []int64{100, 200}},
		{func() { d.flush() }, []int64{100, 200}},
		{func() { d.zero(300, 100) }, []int64{100, 200, 300, 400}},
		{func() { d.write(150, many(100, 0)) }, []int64{100, 250, 300, 400}},
		{func() { d.write(100, many(20, 0)) }, []int64{100, 250, 300, 400}},
		{func() { d.zero(250, 50) }, []int64{100, 400}},
		{func() { d.write(0, many(1, 0)) }, []int64{0, 1, 100, 400}},
		{func() { d.write(4095, many(1, 0)) }, []int64{0, 1, 100, 400, 4095, 4096}},
		{func() { d.zero(0, 4096) }, []int64{0, 4096}},
	} {
		x.do()
		d.wantMissed(1, x.ends...)
		d.settle()
		d.wantMissed(1, x.ends...)
		d.wantMissed(0)
	}
}
