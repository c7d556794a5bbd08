package nego_test

import (
	"fmt"
	"slices"
	"strings"
	"testing"

	"spindle/api"
	"spindle/nego"
)

// wantInfo asks INFO of an export, and GO of a talk of its own, and looks at the kinds that are told behind InfoExport.
func wantInfo(t *testing.T, exports []api.Export, at int, asked []uint16, kinds ...uint16) {
	t.Helper()
	e := exports[at]
	wanted := []api.OptionReply{infoOf(api.InfoExport, e, flagsOf(e, false), 512)}
	for _, k := range kinds {
		wanted = append(wanted, infoOf(k, e, 0, 512))
	}
	wanted = append(wanted, ack)
	x := talk(t, exports, 3)
	what := fmt.Sprint("asked for ", asked[:min(len(asked), 10)])
	wantAnswer(t, what, x, sent(api.OptInfo, infoRequest(e.Name, asked...)...), on, wanted...)
	wantSession(t, what, x, api.Session{}, false)
	wantAnswer(t, what+", again", x, sent(api.OptInfo, infoRequest(e.Name, asked...)...), on, wanted...)
	wantAnswer(t, what, x, sent(api.OptGo, infoRequest(e.Name, asked...)...), start, wanted...)
	wantSession(t, what, x, api.Session{Index: at}, true)
	wantOver(t, what, x)
}

// P10.8: what is asked, in the order of asking, each once, InfoExport first and not again, other kinds let go.
func TestInfo(t *testing.T) {
	exports := []api.Export{export("first", 1), with(export("second", 4), func(e *api.Export) { e.Desc = "of four" }), mixed()[0], mixed()[1]}
	for at := range exports {
		wantInfo(t, exports, at, []uint16{3}, 3)
		wantInfo(t, exports, at, []uint16{1, 2, 3}, 1, 2, 3)
		wantInfo(t, exports, at, []uint16{3, 2, 1}, 3, 2, 1)
		wantInfo(t, exports, at, []uint16{2, 3, 1, 3, 2, 1, 1}, 2, 3, 1)
		wantInfo(t, exports, at, []uint16{3, 3, 3}, 3)
		wantInfo(t, exports, at, []uint16{0, 3}, 3)
		wantInfo(t, exports, at, []uint16{3, 0, 0, 2, 0}, 3, 2)
		wantInfo(t, exports, at, []uint16{77, 3, 4, 0xffff, 0x103, 2, 256, 0x8000, 77}, 3, 2)
	}
	for at := range 2 {
		wantInfo(t, exports, at, nil)
		wantInfo(t, exports, at, []uint16{0})
		wantInfo(t, exports, at, []uint16{0, 0, 0})
		wantInfo(t, exports, at, []uint16{1}, 1)
		wantInfo(t, exports, at, []uint16{2, 1}, 2, 1)
		wantInfo(t, exports, at, []uint16{77, 4, 0xffff})
		wantInfo(t, exports, at, []uint16{77, 2, 77, 2}, 2)
	}
}

// P10.8, R7: as many kinds as may be asked, and one more.
func TestInfoOfManyKinds(t *testing.T) {
	exports := two()
	wantInfo(t, exports, 0, slices.Repeat([]uint16{77}, api.MaxInfos))
	wantInfo(t, exports, 1, append(slices.Repeat([]uint16{0}, api.MaxInfos-1), 3), 3)
	wantInfo(t, exports, 1, append([]uint16{3}, slices.Repeat([]uint16{2}, api.MaxInfos-1)...), 3, 2)
	x := talk(t, exports, 3)
	for _, code := range []uint32{api.OptInfo, api.OptGo} {
		for _, n := range []int{65, 66, 1000, 65535} {
			for _, name := range []string{"", "a", "b", "nobody"} {
				wantRefused(t, "too many kinds", x, sent(code, infoRequest(name, slices.Repeat([]uint16{3}, n)...)...), api.RepTooBig)
				wantRefused(t, "too many kinds, not there", x, sent(code, lay(counted(name), uint16(n))...), api.RepTooBig)
			}
		}
		wantRefused(t, "too many kinds and no text", x, sent(code, infoRequest("\xff", slices.Repeat([]uint16{3}, 65)...)...), api.RepInvalid)
		wantRefused(t, "as many as may be, one not there", x, sent(code, lay(counted("a"), uint16(64), make([]byte, 126))...), api.RepInvalid)
	}
	wantSession(t, "behind them", x, api.Session{}, false)
}

// P10.8: Data that are no request, ahead of all else.
func TestInfoOfNoRequest(t *testing.T) {
	x := talk(t, two(), 3)
	for _, code := range []uint32{api.OptInfo, api.OptGo} {
		for _, right := range [][]byte{infoRequest("b", 3, 1), infoRequest(""), infoRequest("nobody", 3)} {
			for n := range right {
				wantRefused(t, "a beginning", x, sent(code, right[:n]...), api.RepInvalid)
			}
			wantRefused(t, "a byte behind", x, sent(code, append(right, 0)...), api.RepInvalid)
			wantRefused(t, "a kind behind", x, sent(code, append(right, 0, 3)...), api.RepInvalid)
		}
		for _, name := range []string{"\x00", "a\x00", "\xff", "\xc3", strings.Repeat("n", 4097)} {
			wantRefused(t, "a name that is no text", x, sent(code, infoRequest(name, 3)...), api.RepInvalid)
		}
		wantRefused(t, "a name of 2^32 - 1 bytes", x, sent(code, lay(uint32(max32), "a", uint16(0))...), api.RepInvalid)
		wantRefused(t, "what contexts ask", x, sent(code, metaRequest("a", "base:allocation")...), api.RepInvalid)
	}
	wantSession(t, "behind them", x, api.Session{}, false)
}

// P10.8: an export with a Min above 1 wants InfoBlock to be asked; one of 1 does not.
func TestInfoOfBlockSize(t *testing.T) {
	for _, low := range []uint32{1, 512, 1024, 2048, 4096} {
		e := with(export("a", 8), func(e *api.Export) { e.Min, e.Pref = low, 4096 })
		for _, asked := range [][]uint16{nil, {0}, {1, 2}, {77, 0x103, 0x300}, slices.Repeat([]uint16{2}, 64)} {
			x := talk(t, []api.Export{e}, 3)
			for _, code := range []uint32{api.OptInfo, api.OptGo} {
				o := sent(code, infoRequest("a", asked...)...)
				if low > 1 {
					wantRefused(t, fmt.Sprint("Min ", low), x, o, api.RepBlockSize)
					wantSession(t, fmt.Sprint("Min ", low), x, api.Session{}, false)
					continue
				}
				l, _, err := x.Option(o)
				wantErr(t, "Min 1", err, api.OK)
				want(t, "Min 1", l[len(l)-1].Kind, api.RepAck)
			}
			want(t, "begun", x.Started(), low == 1)
		}
	}
}

// P10.8: the greatest payload that is told is that of the talk; chunks and extended headers bring TxDF.
func TestInfoOfTheTalk(t *testing.T) {
	for _, payload := range []uint32{512, 513, 70000, 1048576} {
		x, _ := nego.New(mixed(), api.Limits{Payload: payload, Option: 65536, Flight: 64})
		x.Flags(3)
		for _, e := range mixed() {
			wantAnswer(t, fmt.Sprint("Payload ", payload), x, sent(api.OptInfo, infoRequest(e.Name, 3)...), on,
				infoOf(api.InfoExport, e, flagsOf(e, false), 0), infoOf(api.InfoBlock, e, 0, payload), ack)
		}
	}
	for _, code := range []uint32{api.OptStructured, api.OptExtended} {
		for _, e := range mixed() {
			x := talk(t, mixed(), 3)
			wantAcked(t, "chunks", x, sent(code))
			wantAnswer(t, "INFO", x, sent(api.OptInfo, infoRequest(e.Name, 3)...), on, infoOf(api.InfoExport, e, flagsOf(e, true), 0), infoOf(api.InfoBlock, e, 0, 512), ack)
			wantAnswer(t, "GO", x, sent(api.OptGo, infoRequest(e.Name, 3)...), start, infoOf(api.InfoExport, e, flagsOf(e, true), 0), infoOf(api.InfoBlock, e, 0, 512), ack)
		}
	}
}

// P10.8: names and descriptions at their ends: none, and as long as may be.
func TestInfoOfTexts(t *testing.T) {
	exports := full()
	exports[3].Desc = ""
	for at := range exports {
		wantInfo(t, exports, at, []uint16{2, 1}, 2, 1)
	}
}
