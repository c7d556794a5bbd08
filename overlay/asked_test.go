package overlay_test

import (
	"strconv"
	"strings"
	"testing"

	"spindle/api"
)

const (
	none = "00000000" // bits
	full = "11111111"
	bare = "--------" // sheets
)

// asked is a call of an overlay with these sheets over the small volume with these bits, and what it asks of the volume; then the sheets behind it.
//
// A word of hand is a call of the volume, of all bytes of one sector: r3 is Read of sector 3, f3 its Fetch, e3 its Extents. A word @510 says that for those behind it byte 510 is the one at fault.
type asked struct {
	bits, sheets string
	call         call
	hand         string
	behind       string
	runs         string // of extents
}

var askedOf = []asked{
	// P20.3: reads within a sector, over an edge, of a sector just so; with sheets, holes for sheets and none side by side
	{full, bare, call{"read", 100, 300, 0}, "@100 r0", bare, ""},
	{full, bare, call{"read", 512, 512, 0}, "@512 r1", bare, ""},
	{full, bare, call{"read", 511, 514, 0}, "@511 r0 @512 r1 @1024 r2", bare, ""},
	{full, bare, call{"read", 4095, 1, 0}, "@4095 r7", bare, ""},
	{"10101010", "-lh--lh-", call{"read", 0, 4096, 0}, "@0 r0 @1536 r3 @2048 r4 @3584 r7", "-lh--lh-", ""},
	{full, "-lh--lh-", call{"read", 600, 2000, 0}, "@1536 r3 @2048 r4", "-lh--lh-", ""},
	{full, "hlhlhlhl", call{"read", 1, 4095, 0}, "", "hlhlhlhl", ""},
	{full, "--l-----", call{"read", 1030, 5, 0}, "", "--l-----", ""},
	{full, "--h-----", call{"read", 1023, 2, 0}, "@1023 r1", "--h-----", ""},
	{full, bare, call{"fetch", 100, 300, 0}, "@100 f0", bare, ""},
	{"10101010", "-lh--lh-", call{"fetch", 1, 4095, 0}, "@1 f0 @1536 f3 @2048 f4 @3584 f7", "-lh--lh-", ""},
	{full, "-l------", call{"fetch", 511, 514, 0}, "@511 f0 @1024 f2", "-l------", ""},
	{full, "-h------", call{"fetch", 512, 512, 0}, "", "-h------", ""},

	// P20.4: writes take what they do not cover, and nothing else
	{full, bare, call{"write", 100, 5, 1}, "@100 r0", "l-------", ""},
	{none, bare, call{"write", 100, 5, 1}, "@100 r0", "l-------", ""},
	{full, bare, call{"write", 510, 4, 2}, "@510 r0 @512 r1", "ll------", ""},
	{full, bare, call{"write", 512, 512, 3}, "", "-l------", ""},
	{full, bare, call{"write", 512, 511, 3}, "@512 r1", "-l------", ""},
	{full, bare, call{"write", 513, 511, 3}, "@513 r1", "-l------", ""},
	{full, bare, call{"write", 511, 514, 3}, "@511 r0 @1024 r2", "lll-----", ""},
	{full, bare, call{"write", 512, 1024, 3}, "", "-ll-----", ""},
	{full, bare, call{"write", 4095, 1, 3}, "@4095 r7", "-------l", ""},
	{full, bare, call{"write", 0, 4096, 3}, "", "llllllll", ""},
	{"01010101", "-lh--lh-", call{"write", 300, 3500, 4}, "@300 r0 @3584 r7", "llllllll", ""},
	{full, "-lh--lh-", call{"write", 1000, 100, 4}, "", "-ll--lh-", ""},
	{full, "--h-----", call{"write", 1100, 100, 4}, "", "--l-----", ""},
	{full, "--h-----", call{"write", 1024, 512, 4}, "", "--l-----", ""},

	// P20.5: zeros that keep are written
	{full, bare, call{"keep", 300, 1400, 0}, "@300 r0 @1536 r3", "llll----", ""},
	{none, bare, call{"keep", 512, 512, 0}, "", "-l------", ""},
	{none, "-h------", call{"keep", 512, 512, 0}, "", "-l------", ""},
	{full, "-lh--lh-", call{"keep", 1000, 1000, 0}, "@1536 r3", "-lll-lh-", ""},

	// P20.5: those that don't make holes of whole sectors, and write the rest, be it a hole of the volume
	{full, bare, call{"zero", 300, 1400, 0}, "@300 r0 @1536 r3", "lhhl----", ""},
	{none, bare, call{"zero", 300, 1400, 0}, "@300 r0 @1536 r3", "lhhl----", ""},
	{none, bare, call{"zero", 512, 512, 0}, "", "-h------", ""},
	{full, bare, call{"zero", 512, 511, 0}, "@512 r1", "-l------", ""},
	{full, bare, call{"zero", 513, 511, 0}, "@513 r1", "-l------", ""},
	{full, bare, call{"zero", 0, 4096, 0}, "", "hhhhhhhh", ""},
	{full, "-lh--lh-", call{"zero", 600, 2200, 0}, "", "-lhhhlh-", ""},
	{full, "-lh--lh-", call{"zero", 1100, 100, 0}, "", "-ll--lh-", ""},
	{full, "-lh--lh-", call{"zero", 512, 1024, 0}, "", "-hh--lh-", ""},

	// P20.5: trims of whole sectors alone, without asking
	{full, bare, call{"trim", 100, 1000, 0}, "", "-h------", ""},
	{none, bare, call{"trim", 511, 514, 0}, "", "-h------", ""},
	{full, bare, call{"trim", 512, 512, 0}, "", "-h------", ""},
	{full, bare, call{"trim", 1, 1022, 0}, "", bare, ""},
	{full, bare, call{"trim", 512, 511, 0}, "", bare, ""},
	{full, bare, call{"trim", 513, 511, 0}, "", bare, ""},
	{full, bare, call{"trim", 700, 10, 0}, "", bare, ""},
	{full, bare, call{"trim", 4000, 96, 0}, "", bare, ""},
	{full, "llllllll", call{"trim", 700, 2000, 0}, "", "llhhhlll", ""},
	{full, "-lh--lh-", call{"trim", 0, 4096, 0}, "", "hhhhhhhh", ""},

	// P20.6: nothing, of sheets and of what the volume has
	{full, "-lh--lh-", call{"sync", 0, 4096, 0}, "", "-lh--lh-", ""},
	{full, "-lh--lh-", call{"sync", 511, 2, 0}, "", "-lh--lh-", ""},
	{full, "-lh--lh-", call{"flush", 0, 0, 0}, "", "-lh--lh-", ""},

	// P20.7: the volume is asked for sectors without a sheet, one by one
	{"10101010", bare, call{"extents", 0, 4096, 0}, "@0 e0 @512 e1 @1024 e2 @1536 e3 @2048 e4 @2560 e5 @3072 e6 @3584 e7", bare, "0+512 512+512h 1024+512 1536+512h 2048+512 2560+512h 3072+512 3584+512h"},
	{"11001100", "-lh--lh-", call{"extents", 100, 3900, 0}, "@100 e0 @1536 e3 @2048 e4 @3584 e7", "-lh--lh-", "100+412 512+512u 1024+512hu 1536+512h 2048+512 2560+512u 3072+512hu 3584+416h"},
	{full, "-llhh---", call{"extents", 1, 4095, 0}, "@1 e0 @2560 e5 @3072 e6 @3584 e7", "-llhh---", "1+511 512+1024u 1536+1024hu 2560+1536"},
	{full, "-l------", call{"extents", 600, 10, 0}, "", "-l------", "600+10u"},
	{full, "-l------", call{"extents", 511, 514, 0}, "@511 e0 @1024 e2", "-l------", "511+1 512+512u 1024+1"},
	{"00000001", bare, call{"extents", 3583, 2, 0}, "@3583 e6 @3584 e7", bare, "3583+1h 3584+1"},

	// P20.8: nothing
	{full, "-lh--lh-", call{"peek", 1, 4095, 0}, "", "-lh--lh-", ""},
	{full, "-lh--lh-", call{name: "drop"}, "", bare, ""},
}

func (x asked) String() string {
	return x.call.String() + " over " + x.bits + " with " + x.sheets
}

// byHand makes the calls of the volume, until one of them goes wrong.
func (x asked) byHand(t *testing.T, r rig) (uint64, api.Errno) {
	t.Helper()
	at := uint64(0)
	for _, word := range strings.Fields(x.hand) {
		number, err := strconv.ParseUint(word[1:], 10, 64)
		if err != nil {
			t.Fatal(err)
		}
		e := api.OK
		off := number * api.SectorSize
		switch word[0] {
		case '@':
			at = number
		case 'r':
			_, _, e = r.volume.Read(off, api.SectorSize)
		case 'f':
			_, e = r.volume.Fetch(off, api.SectorSize)
		case 'e':
			_, _, e = r.volume.Extents(off, api.SectorSize)
		}
		if e != api.OK {
			return at, e
		}
	}
	return 0, api.OK
}

// begin is a way in which the cache below is when the overlay is asked.
type begin struct {
	lines int
	ahead string // what was done ahead: nothing, "lines" that are clean, or "dirty" data and notes
}

func begins() []begin {
	var out []begin
	for _, lines := range []int{1, 2, 3, 16} {
		for _, ahead := range []string{"nothing", "lines", "dirty"} {
			out = append(out, begin{lines, ahead})
		}
	}
	return out
}

// rig gives the overlay with these sheets over the small volume with these bits, whatever was done ahead.
func (b begin) rig(t *testing.T, bits, sheets string) rig {
	t.Helper()
	r := rigOf(t, b.lines, bits, sheets)
	switch b.ahead {
	case "lines":
		play(t, r.volume, call{name: "read", n: smallSize})
	case "dirty":
		play(t, r.volume, call{"write", 0, smallSize, 77}, call{"trim", 0, smallSize, 0}, call{"write", 2000, 600, 78})
		wantErr(t, "Write of the cache", r.cache.Write(smallNote, noteOf(bits)), api.OK)
	}
	return r
}

// P20.3 to P20.8: the calls of the volume, in their order and number, and none besides: the same lines, counts, queue and bytes come of them as of the calls by hand
func TestWhatIsAsked(t *testing.T) {
	for _, x := range askedOf {
		for _, b := range begins() {
			r, twin := b.rig(t, x.bits, x.sheets), b.rig(t, x.bits, x.sheets)
			array, below := peekAll(t, r.overlay), peekAll(t, r.volume)
			a := x.call.of(t, r.overlay)
			at, e := x.byHand(t, twin)
			wantEnd(t, x.String()+", by hand", at, e, 0, api.OK)
			wantEnd(t, x.String(), a.at, a.e, 0, api.OK)
			r.wantLook(t, x.String(), twin.look())
			wantSheets(t, x.String(), r.overlay, x.behind)
			wantBytes(t, x.String()+": the volume", peekAll(t, r.volume), below)
			if x.call.name == "drop" {
				want(t, x.String(), a.many, 4)
				array = below
			}
			wantBytes(t, x.String()+": the array", peekAll(t, r.overlay), x.call.changed(array))
			if x.call.name == "read" || x.call.name == "peek" {
				wantBytes(t, x.String(), a.bytes, array[x.call.off:][:x.call.n])
			}
			if x.call.name == "extents" && b.ahead != "dirty" {
				want(t, x.String(), words(a.runs), x.runs)
			}
		}
	}
}

// everyFault gives each operation of the disk between two of its counts, as a fault that fails it alone, not landing and landing.
func everyFault(from, to api.DiskStats) []api.Fault {
	var out []api.Fault
	for after := range int(to.Reads - from.Reads) {
		out = append(out, api.Fault{Kind: reading, Sector: -1, After: after, Times: 1})
	}
	for after := range int(to.Writes - from.Writes) {
		out = append(out, api.Fault{Kind: writing, Sector: -1, After: after, Times: 1}, api.Fault{Kind: writing, Sector: -1, After: after, Times: 1, Land: true})
	}
	for after := range int(to.Barriers - from.Barriers) {
		out = append(out, api.Fault{Kind: barring, Sector: -1, After: after, Times: 1})
	}
	return out
}

// P20.3 to P20.5, P20.7: each operation of the disk fails once: the call ends there with ErrIO and the byte at fault, and what was done ahead of it stays done
func TestWhatIsAskedFails(t *testing.T) {
	failed := 0
	for _, x := range askedOf {
		for _, b := range begins() {
			good := b.rig(t, x.bits, x.sheets)
			from := good.disk.Stats()
			x.call.of(t, good.overlay)
			for _, f := range everyFault(from, good.disk.Stats()) {
				wantFailure(t, x, b, f)
				failed++
			}
		}
	}
	if failed < 600 {
		t.Error("only", failed, "operations failed")
	}
}

func wantFailure(t *testing.T, x asked, b begin, f api.Fault) {
	t.Helper()
	r, twin := b.rig(t, x.bits, x.sheets), b.rig(t, x.bits, x.sheets)
	array, below := peekAll(t, r.overlay), peekAll(t, r.volume)
	arm(t, r.disk, f)
	arm(t, twin.disk, f)
	a := x.call.of(t, r.overlay)
	at, e := x.byHand(t, twin)
	wantErr(t, x.String()+", by hand", e, api.ErrIO)
	wantEnd(t, x.String(), a.at, a.e, at, api.ErrIO)
	r.wantLook(t, x.String(), twin.look())
	want(t, x.String()+": faults", len(r.disk.Faults()), 0)
	fault := int(at) / api.SectorSize
	wantSheets(t, x.String()+", failed", r.overlay, x.behind[:fault]+x.sheets[fault:])
	wantBytes(t, x.String()+", failed", peekAll(t, r.overlay), upTo(x.call.changed(array), array, fault))
	wantBytes(t, x.String()+", failed: the volume", peekAll(t, r.volume), below)
	// Nothing of the failure is kept: the same call goes well now.
	a = x.call.of(t, r.overlay)
	wantEnd(t, x.String()+" again", a.at, a.e, 0, api.OK)
	wantSheets(t, x.String()+" again", r.overlay, x.behind)
	wantBytes(t, x.String()+" again", peekAll(t, r.overlay), x.call.changed(array))
}

// upTo gives one array's bytes ahead of a sector, and another one's from there on.
func upTo(one, other []byte, sector int) []byte {
	at := sector * api.SectorSize
	return append(append([]byte(nil), one[:at]...), other[at:]...)
}

// Types: the byte at fault is the first of the range in that sector, whatever sectors with a sheet lie ahead of it
func TestTheByteAtFault(t *testing.T) {
	for _, x := range []struct {
		call   call
		sector int // whose data can't be read
		at     uint64
	}{
		{call{"read", 100, 5, 0}, 0, 100},
		{call{"read", 511, 1, 0}, 0, 511},
		{call{"read", 100, 3000, 0}, 0, 100},
		{call{"read", 100, 3000, 0}, 3, 1536},
		{call{"read", 1300, 3000 - 204, 0}, 7, 3584},
		{call{"read", 3700, 100, 0}, 7, 3700},
		{call{"fetch", 1600, 10, 0}, 3, 1600},
		{call{"fetch", 0, 4096, 0}, 4, 2048},
		{call{"write", 1600, 10, 1}, 3, 1600},
		{call{"write", 100, 3600, 1}, 7, 3584},
		{call{"zero", 1535, 2, 0}, 3, 1536},
		{call{"keep", 1537, 1, 0}, 3, 1537},
	} {
		r := rigOf(t, 4, full, "-lh--lh-")
		arm(t, r.disk, api.Fault{Kind: reading, Sector: smallData + x.sector, Times: 1})
		wantAnswer(t, x.call.String(), x.call.of(t, r.overlay), answer{at: x.at, e: api.ErrIO})
	}
	for _, c := range []call{{"extents", 100, 4, 0}, {"extents", 1700, 1000, 0}, {"read", 1700, 1, 0}} {
		r := rigOf(t, 4, full, "-lh--lh-")
		arm(t, r.disk, api.Fault{Kind: reading, Sector: smallNote, Times: 1})
		wantAnswer(t, c.String(), c.of(t, r.overlay), answer{at: c.off, e: api.ErrIO})
	}
}
