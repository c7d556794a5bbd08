package mirror_test

import (
	"testing"

	"spindle/api"
	"spindle/wire"
)

// A host stands where a member's server is: it takes apart what the member says, and answers what it is told to.
type host struct {
	greeted  bool
	flags    bool          // the member's were said
	chosen   bool          // GO was asked, and is not answered
	words    []byte        // what was not taken apart
	requests []api.Request // that are not answered
}

// take takes apart what the member has said.
func (h *host) take(t *testing.T, b []byte) {
	t.Helper()
	h.words = append(h.words, b...)
	for len(h.words) > 0 {
		n, e := h.cut()
		if e != api.OK {
			t.Fatalf("error %d of % x", e, h.words[:min(80, len(h.words))])
		}
		h.words = h.words[n:]
	}
}

func (h *host) cut() (int, api.Errno) {
	switch {
	case !h.flags:
		h.flags = true
		_, n, e := wire.DecodeFlags(h.words)
		return n, e
	case h.words[0] == 'I':
		h.chosen = true
		_, n, e := wire.DecodeOption(h.words, api.MaxOption)
		return n, e
	}
	q, n, e := wire.DecodeRequest(h.words, api.MaxPayload, false)
	h.requests = append(h.requests, q)
	return n, e
}

// next is what the host says next on the way to the start, if there is something.
func (h *host) next(size uint64) []byte {
	switch {
	case !h.greeted:
		h.greeted = true
		return greetingBytes(3)
	case h.chosen:
		h.chosen = false
		return startBytes(size)
	}
	return nil
}

// answer answers the request that stands at a place among those that are not answered; with code 0 well.
func (h *host) answer(at int, code uint32) []byte {
	q := h.requests[at]
	h.requests = append(h.requests[:at:at], h.requests[at+1:]...)
	if q.Type == api.CmdRead && code == 0 {
		return well(q.Cookie, many(int(q.Length), int(q.Offset)+int(q.Cookie))...)
	}
	return simpleBytes(code, q.Cookie)
}
