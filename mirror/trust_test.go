package mirror_test

import (
	"fmt"
	"strings"
	"testing"

	"spindle/api"
)

// P24.8: with members in every state, of each of them: it is trusted just if it is stale, and none is whole; then it is the only one that is open, and all others miss all.
func TestTrust(t *testing.T) {
	for members := 1; members <= 4; members++ {
		for _, letters := range words("wsjo", members) {
			for k := range members {
				s := setStage(t, letters)
				s.what = fmt.Sprint("Trust of ", k, " of ", letters)
				before := s.m.Look()
				e := s.trust(k)
				if letters[k] != 's' || strings.Contains(letters, "w") {
					want(t, s.what, e, api.ErrMember)
					wantLook(t, s.what, s.m.Look(), before)
					continue
				}
				want(t, s.what, e, api.OK)
				s.wantStates(strings.Repeat("o", k) + "w" + strings.Repeat("o", members-k-1))
				for other := range members {
					if other == k {
						s.wantMissed(other)
					} else {
						s.wantMissed(other, 0, 4096)
						s.wantSay(other)
						want(t, s.what+": Hear", s.hear(other, greetingBytes(3)), api.ErrMember)
					}
				}
				s.wantWaiting(0, -1)
				s.wantDone()
				s.wantSay(k)
				s.read(7, 1)
				s.wantSay(k, readBytes(s.cookies[k], 7, 1))
			}
		}
	}
}

// P24.8: all is copied to those that come back to one that was trusted.
func TestBehindTrust(t *testing.T) {
	s := setStage(t, "sso")
	s.trust(1)
	s.opens(0)
	s.wantStates("swo")
	at := uint64(0)
	for n := range uint64(4) {
		s.wantSay(1, readBytes(1+n, at, 1024))
		s.hear(1, well(1+n, many(1024, int(at))...))
		s.wantSay(0, writeBytes(1+n, at, many(1024, int(at))))
		s.hear(0, well(1+n))
		at += 1024
	}
	s.wantSay(0, flushBytes(5))
	s.hear(0, well(5))
	s.wantStates("wwo")
	s.wantMissed(2, 0, 4096)
}

// P24.8: while an operation is in work nobody is trusted, though none is whole any more.
func TestTrustWhileInWork(t *testing.T) {
	for _, kind := range kinds[1:] {
		s := setStage(t, "wso")
		s.what = kind
		s.do(kind)
		s.end()
		s.say(1)
		s.lost(0)
		s.wantStates("oso")
		s.wantDone()
		want(t, kind+": in work", s.trust(1), api.ErrMember)
		want(t, kind+": in work, of one that is out", s.trust(0), api.ErrMember)
		s.wantStates("oso")
		s.hear(1, well(s.cookies[1]))
		s.wantDone(wentWrong(2))
		want(t, kind+": behind it", s.trust(1), api.OK)
		s.wantStates("owo")
	}
}

// losing gives the desk of a flush that goes on though the last whole ones were dropped, with member 1 stale, too.
func losing(t *testing.T, what string) *desk {
	t.Helper()
	d := flushing(t, what)
	d.lost(1)
	d.write(9, []byte("z"))
	d.lost(0)
	d.hear(2, well(2))
	d.wantDone()
	d.wantStates("oow")
	d.say(2)
	d.hear(2, well(3))
	d.wantDone(wentWell(2))
	d.wantMissed(1, 9, 10)
	d.opens(1) // it is copied to, and then flushed
	d.say(2)
	d.hear(2, well(4, 'z'))
	d.hear(1, well(1))
	d.wantSay(1, writeBytes(1, 9, []byte("z")), flushBytes(2))
	d.wantMissed(0, 9, 10)
	d.opens(0)
	d.lost(2)
	d.wantStates("sso")
	d.wantWaiting(0, 1)
	return d
}

// P24.8, P24.7: the member that is flushed is trusted: it is whole, and its flush is outstanding yet; what comes meanwhile waits for it.
func TestTrustOfTheFlushedOne(t *testing.T) {
	for _, kind := range kinds {
		for what, drop := range drops {
			d := losing(t, kind+", "+what)
			want(t, d.what, d.trust(1), api.OK)
			d.wantStates("owo")
			d.wantMissed(0, 0, 4096)
			d.wantMissed(1)
			d.wantMissed(2, 0, 4096)
			d.wantWaiting(0, 1)
			d.do(kind)
			d.wantWaiting(1, 1)
			d.wantQuiet()
			d.opens(2)
			d.wantStates("ows")
			d.wantWaiting(1, 1)
			d.wantQuiet()
			drop(d, 1, 2)
			d.wantStates("oos")
			d.wantWaiting(0, -1)
			d.wantDone(wentWrong(3))
		}

		d := losing(t, kind)
		d.trust(1)
		d.do(kind)
		d.hear(1, well(2))
		d.wantStates("owo")
		d.wantWaiting(1, -1)
		d.wantSay(1, bytesOf(kind, 3))
	}
}

// P24.8: another one is trusted than the one that is flushed: that one is dropped, and the copying has ended. What has waited for it finds the trusted one.
func TestTrustBesideAFlush(t *testing.T) {
	for _, kind := range kinds {
		d := losing(t, kind)
		d.do(kind)
		d.wantWaiting(1, 1)
		want(t, d.what, d.trust(0), api.OK)
		d.wantStates("woo")
		d.wantMissed(0)
		if kind == "Write" || kind == "Zero" {
			d.wantMissed(1, 0, 4096)
		}
		d.wantMissed(2, 0, 4096)
		d.wantWaiting(1, -1)
		d.wantSay(0, bytesOf(kind, 1))
		answer, told := answerTo(kind, 1)
		d.hear(0, answer)
		d.wantDone(api.MirrorDone{ID: 3, Data: told})
	}
}

// P24.8: while something is copied there is a whole one, and nobody is trusted.
func TestTrustWhileCopying(t *testing.T) {
	s := setStage(t, "wss")
	for _, k := range []int{0, 1, 2} {
		want(t, "Trust", s.trust(k), api.ErrMember)
	}
	s.wantWaiting(0, 1)
	s.lost(0)
	s.wantWaiting(0, -1)
	want(t, "without a whole one", s.trust(2), api.OK)
	s.wantStates("oow")
}

// P24.8: the member's own client and mail are as they were; it is not trusted twice.
func TestTrustedMemberGoesOn(t *testing.T) {
	s := setStage(t, "ws")
	s.write(300, []byte("data"))
	s.end()
	s.lost(0)
	s.hear(1, well(2))
	s.wantDone(wentWrong(2))
	want(t, "Trust", s.trust(1), api.OK)
	s.flush()
	s.wantSay(1, writeBytes(2, 300, []byte("data")), flushBytes(3))
	want(t, "Trust again", s.trust(1), api.ErrMember)
	s.hear(1, well(3))
	want(t, "Trust of a whole one", s.trust(1), api.ErrMember)
	s.wantDone(wentWell(3))
}
