package reply_test

import (
	"strings"
	"testing"

	"spindle/api"
)

// eachSimple goes through the sessions and commands of which the answer is simple.
func eachSimple(do func(s api.Session, command uint16)) {
	for _, s := range sessions() {
		for _, command := range all() {
			if !s.Extended && (!s.Structured || command != 0 && command != 7) {
				do(s, command)
			}
		}
	}
}

// P12.3: the data of a read, a hole's as bytes 0.
func TestSimpleRead(t *testing.T) {
	for _, x := range []struct {
		what           string
		offset, length uint64
		o              api.Outcome
		data           string
	}{
		{"data", 5, 3, pieces(text(5, "abc")), "abc"},
		{"a hole", 5, 3, pieces(hole(5, 3)), "\x00\x00\x00"},
		{"a hole, data", 5, 3, pieces(hole(5, 2), text(7, "c")), "\x00\x00c"},
		{"data, a hole", 5, 3, pieces(text(5, "ab"), hole(7, 1)), "ab\x00"},
		{"of one byte each", 5, 4, pieces(text(5, "a"), hole(6, 1), text(7, "c"), text(8, "d")), "a\x00cd"},
		{"to the last byte", top - 3, 4, pieces(text(top-3, "abc"), hole(top, 1)), "abc\x00"},
		{"the last byte", top, 1, pieces(text(top, "z")), "z"},
		{"none", 5, 0, api.Outcome{}, ""},
		{"many", 0, 1 << 20, pieces(hole(0, 1<<19), text(1<<19, strings.Repeat("y", 1<<19))), string(make([]byte, 1<<19)) + strings.Repeat("y", 1<<19)},
	} {
		for _, s := range []api.Session{neither, telling(neither, 1), telling(neither, 1, 2)} {
			for _, flags := range []uint16{0, api.FlagDF, api.FlagFua, 65535} {
				c := call{s, flagged(ask(api.CmdRead, x.offset, x.length), flags), x.o}
				c.r.Cookie = 0x0102030405060708
				wantSimple(t, x.what, c, 0, x.data)
				wantBytes(t, x.what, c, lay(uint32(0x67446698), uint32(0), uint64(0x0102030405060708), x.data))
			}
		}
	}
}

// P12.3: errors of every command, with a place and without: the code, and nothing else.
func TestSimpleErrors(t *testing.T) {
	eachSimple(func(s api.Session, command uint16) {
		for _, code := range codes() {
			for _, cookie := range []uint64{0, 7, 1 << 63, top} {
				c := call{s, ask(command, 512, 1024), api.Outcome{Code: code}}
				c.r.Cookie = cookie
				wantSimple(t, "an error", c, code, "")
				wantBytes(t, "an error", c, lay(uint32(0x67446698), code, cookie))
				c.o.Placed, c.o.At = true, 600
				wantSimple(t, "an error with a place", c, code, "")
				wantBytes(t, "an error with a place", c, lay(uint32(0x67446698), code, cookie))
			}
		}
	})
}

// P12.3: every other command that went well has no data, however long its range is.
func TestSimpleOthers(t *testing.T) {
	eachSimple(func(s api.Session, command uint16) {
		if command == api.CmdRead || command == api.CmdStatus {
			return
		}
		for _, length := range []uint64{0, 4, 1 << 40, top} {
			c := call{s, ask(command, 512, length), api.Outcome{}}
			wantSimple(t, "it went well", c, 0, "")
			wantBytes(t, "it went well", c, lay(uint32(0x67446698), uint32(0), uint64(7)))
		}
	})
}
