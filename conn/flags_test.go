package conn_test

import (
	"fmt"
	"testing"

	"spindle/api"
)

// P14.3: of fewer than four bytes nothing is taken; with the rest the flags are, and no byte behind them.
func TestFlags(t *testing.T) {
	for f := range uint32(4) {
		for n := range 5 {
			for _, behind := range [][]byte{nil, {7}, goTo("a")} {
				what := fmt.Sprintf("flags %d, %d bytes first, %d behind", f, n, len(behind))
				c := fresh(t, one(), small(1))
				give(t, c, flagBytes(f)[:n])
				if n < 4 {
					wantVain(t, what, c)
				}
				give(t, c, lay(flagBytes(f)[n:], behind))
				wantTook(t, what, c.Take(), api.Took{Kind: api.TookFlags})
				wantLook(t, what, c, api.ConnLook{Phase: api.PhaseOptions, Inbox: len(behind), Outbox: 18, Next: 1})
				wantBytes(t, what, c.Out(), greeting())
			}
		}
	}
}

// P14.3: flags with a bit that is not known end the connection, and take all that was held along; the greeting still leaves.
func TestFlagsWithOtherBits(t *testing.T) {
	wrong := []uint32{max32, max32 - 3, 1 << 8, 0x10001, 4, 5, 7, 8}
	for bit := 2; bit < 32; bit++ {
		wrong = append(wrong, 1<<bit, 1<<bit|3)
	}
	for _, f := range wrong {
		what := fmt.Sprintf("flags %#x", f)
		c := fresh(t, one(), small(1))
		give(t, c, lay(flagBytes(f), option(api.OptList)))
		wantEnd(t, what, c, api.Took{Kind: api.TookEnd}, greeting())

		c = fresh(t, one(), small(1))
		c.Out()
		give(t, c, flagBytes(f)[:3])
		wantVain(t, what, c)
		give(t, c, flagBytes(f)[3:])
		wantEnd(t, what+", the greeting has left", c, api.Took{Kind: api.TookEnd}, nil)
	}
}

// P14.3: what the flags said is kept: without HandFixed every option but EXPORT_NAME ends the connection, without HandNoZeroes zeros stand behind the export.
func TestFlagsAreKept(t *testing.T) {
	for f := range uint32(4) {
		what := fmt.Sprint("flags ", f)
		c := haggling(t, one(), small(1), f)
		give(t, c, option(api.OptStructured))
		if f&1 == 0 {
			wantEnd(t, what, c, api.Took{Kind: api.TookEnd, Code: api.OptStructured}, nil)
		} else {
			wantTook(t, what, c.Take(), api.Took{Kind: api.TookOption, Code: api.OptStructured})
			wantBytes(t, what, c.Out(), replyBytes(api.OptStructured, api.RepAck))
		}
		c = haggling(t, one(), small(1), f)
		give(t, c, option(api.OptExportName, 'a'))
		wantTook(t, what, c.Take(), api.Took{Kind: api.TookOption, Code: api.OptExportName})
		zeros := 124
		if f&2 != 0 {
			zeros = 0
		}
		wantBytes(t, what, c.Out(), lay(uint64(4096), uint16(0xd6d), make([]byte, zeros)))
	}
}
