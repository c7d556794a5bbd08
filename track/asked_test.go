package track_test

import (
	"strconv"
	"strings"
	"testing"

	"spindle/api"
)

// asked is a call of the small track with these bits and marks, and what it asks of the cache.
//
// A word of hand is a call of the cache: r14 reads sector 14; w14:1000 writes it with these bits (w14 with bytes 0); t14 is Through, s14 is Through if it is not safe; f is Flush; v is the call of that name of the volume at the place, and its answer. A word @510 says that for those behind it byte 510 is the one at fault; a word ! that an error behind it comes beside a true.
type asked struct {
	bits, marks string
	call        call
	hand        string
	runs        string // of extents
}

const (
	none = "00000000"
	full = "11111111"
)

var askedOf = []asked{
	// P19.3: within a sector, over an edge, just a sector, all; the marks one by one, then Through, then the volume
	{none, none, call{"write", 100, 5, 1}, "@100 r14 w14:10000000 t14 v", ""},
	{none, none, call{"write", 510, 4, 1}, "@510 r14 w14:10000000 @512 r14 w14:11000000 @510 t14 v", ""},
	{full, none, call{"write", 1024, 512, 2}, "@1024 r14 w14:00100000 t14 v", ""},
	{full, none, call{"write", 1025, 511, 2}, "@1025 r14 w14:00100000 t14 v", ""},
	{full, none, call{"write", 1024, 511, 2}, "@1024 r14 w14:00100000 t14 v", ""},
	{full, none, call{"write", 1023, 514, 2}, "@1023 r14 w14:01000000 @1024 r14 w14:01100000 @1536 r14 w14:01110000 @1023 t14 v", ""},
	{none, none, call{"write", 4095, 1, 3}, "@4095 r14 w14:00000001 t14 v", ""},
	{"10010001", "01000100", call{"write", 300, 1500, 3}, "@300 r14 w14:11000100 @512 r14 @1024 r14 w14:11100100 @1536 r14 w14:11110100 @300 t14 v", ""},

	// P19.3: marks that stand already: they are read, none is written, and no barrier comes, if they are safe
	{none, full, call{"write", 510, 4, 1}, "@510 r14 @512 r14 @510 s14 v", ""},
	{none, "00100000", call{"write", 1030, 4, 1}, "@1030 r14 s14 v", ""},
	{none, "00000111", call{"write", 2600, 1300, 1}, "@2600 r14 @3072 r14 @3584 r14 @2600 s14 v", ""},

	// P19.3: zeros mark what they touch, though there be nothing to be done
	{none, none, call{"zero", 300, 1400, 0}, "@300 r14 w14:10000000 @512 r14 w14:11000000 @1024 r14 w14:11100000 @1536 r14 w14:11110000 @300 t14 v", ""},
	{full, "01000000", call{"zero", 511, 514, 0}, "@511 r14 w14:11000000 @512 r14 @1024 r14 w14:11100000 @511 t14 v", ""},
	{full, "01000000", call{"zero", 512, 512, 0}, "@512 r14 s14 v", ""},
	{full, none, call{"keep", 511, 514, 0}, "@511 r14 w14:10000000 @512 r14 w14:11000000 @1024 r14 w14:11100000 @511 t14 v", ""},
	{none, "00000001", call{"keep", 4000, 96, 0}, "@4000 r14 s14 v", ""},

	// P19.3: trims mark the sectors of which they cover all, and those alone
	{full, none, call{"trim", 100, 1000, 0}, "@512 r14 w14:01000000 @100 t14 v", ""},
	{full, none, call{"trim", 512, 512, 0}, "@512 r14 w14:01000000 t14 v", ""},
	{full, "01000000", call{"trim", 511, 514, 0}, "@512 r14 @511 s14 v", ""},
	{full, none, call{"trim", 1, 1022, 0}, "", ""},
	{full, none, call{"trim", 512, 511, 0}, "", ""},
	{full, none, call{"trim", 513, 511, 0}, "", ""},
	{full, none, call{"trim", 700, 10, 0}, "", ""},
	{full, none, call{"trim", 4000, 96, 0}, "", ""},
	{none, none, call{"trim", 0, 1024, 0}, "@0 r14 w14:10000000 @512 r14 w14:11000000 @0 t14 v", ""},
	{"01011001", "10000000", call{"trim", 3, 4093, 0}, "@512 r14 w14:11000000 @1024 r14 w14:11100000 @1536 r14 w14:11110000 @2048 r14 w14:11111000 @2560 r14 w14:11111100 @3072 r14 w14:11111110 @3584 r14 w14:11111111 @3 t14 v", ""},

	// P19.4: the volume's, and then the marks
	{none, none, call{"extents", 0, 4096, 0}, "v @0 r14 @512 r14 @1024 r14 @1536 r14 @2048 r14 @2560 r14 @3072 r14 @3584 r14", "0+4096h"},
	{"11011000", "01101000", call{"extents", 100, 3000, 0}, "v @100 r14 @512 r14 @1024 r14 @1536 r14 @2048 r14 @2560 r14 @3072 r14", "100+412 512+512d 1024+512hd 1536+512 2048+512d 2560+540h"},
	{full, "00111100", call{"extents", 0, 4096, 0}, "v @0 r14 @512 r14 @1024 r14 @1536 r14 @2048 r14 @2560 r14 @3072 r14 @3584 r14", "0+1024 1024+2048d 3072+1024"},
	{full, "01000000", call{"extents", 511, 514, 0}, "v @511 r14 @512 r14 @1024 r14", "511+1 512+512d 1024+1"},
	{"01100000", "11000000", call{"extents", 513, 1, 0}, "v @513 r14", "513+1d"},
	{"01100000", "11000000", call{"extents", 511, 2, 0}, "v @511 r14 @512 r14", "511+1hd 512+1d"},

	// P19.5: flush, the marks to 0, flush
	{full, "01100110", call{name: "clear"}, "f ! r14 w14 f", ""},
	{none, none, call{name: "clear"}, "f ! r14 w14 f", ""}, // behind the marks there are other bits
	{full, "", call{name: "clear"}, "f ! r14 f", ""},

	// P19.6
	{full, "01000000", call{name: "marked", n: 1}, "", ""},
}

// byHand makes the calls of the cache, until one of them goes wrong.
func (x asked) byHand(t *testing.T, r rig) answer {
	t.Helper()
	var a answer
	for _, word := range strings.Fields(x.hand) {
		rest, bits, _ := strings.Cut(word[1:], ":")
		sector, _ := strconv.Atoi(rest)
		e := api.OK
		switch word[0] {
		case '@':
			a.at = uint64(sector)
		case '!':
			a.yes = true
		case 'r':
			_, e = r.cache.Read(sector)
		case 'w':
			e = r.cache.Write(sector, bitsOf(bits))
		case 's':
			if !r.cache.Safe(sector) {
				e = r.cache.Through([]int{sector})
			}
		case 't':
			e = r.cache.Through([]int{sector})
		case 'f':
			e = r.cache.Flush()
		case 'v':
			v := x.call.of(t, r.volume(t))
			if v.e != api.OK {
				return v
			}
		}
		if e != api.OK {
			return answer{at: a.at, yes: a.yes, e: api.ErrIO}
		}
	}
	return answer{yes: a.yes}
}

// begin is a way in which the small track's cache is when it is asked.
type begin struct {
	lines int
	ahead string // what was done ahead: nothing, "lines" that are clean, "dirty" data and notes, a mark sector that "waits" at the disk, or that is "dirtymark"
}

func begins() []begin {
	var out []begin
	for _, lines := range []int{1, 2, 3, 16} {
		for _, ahead := range []string{"nothing", "lines", "dirty", "waits", "dirtymark"} {
			out = append(out, begin{lines, ahead})
		}
	}
	return out
}

// rig gives the small track with these bits and marks, whatever was done ahead.
func (b begin) rig(t *testing.T, bits, marks string) rig {
	t.Helper()
	r := rigOf(t, b.lines, bits, marks)
	switch b.ahead {
	case "lines":
		play(t, r.track, call{name: "read", n: smallSize}, call{name: "extents", n: smallSize})
	case "dirty":
		play(t, r.volume(t), call{"write", 0, smallSize, 77}, call{"trim", 0, smallSize, 0}, call{"write", 2000, 600, 78})
		wantErr(t, "Write of the cache", r.cache.Write(smallNote, bitsOf(bits)), api.OK)
	case "waits":
		wantErr(t, "Write of the disk", r.disk.Write(smallMark, bitsOf(marks)), api.OK)
	case "dirtymark":
		wantErr(t, "Write of the cache", r.cache.Write(smallMark, bitsOf(marks)), api.OK)
	}
	return r
}

// P19.3 to P19.6: the calls of the cache, in their order and number: the same lines, counts, queue and bytes come of them as of the calls by hand
func TestWhatIsAsked(t *testing.T) {
	for _, x := range askedOf {
		for _, b := range begins() {
			r, twin := b.rig(t, x.bits, x.marks), b.rig(t, x.bits, x.marks)
			array := peekAll(t, r.track)
			what := x.call.String() + " over " + x.bits + ", marks " + x.marks + ", " + b.ahead
			a := x.call.of(t, r.track)
			byHand := x.byHand(t, twin)
			wantEnd(t, what+", by hand", byHand.at, byHand.e, 0, api.OK)
			wantEnd(t, what, a.at, a.e, 0, api.OK)
			if x.call.name == "clear" {
				want(t, what, a.yes, true)
			}
			r.wantLook(t, what, twin.look())
			wantBytes(t, what, peekAll(t, r.track), x.call.changed(array))
			if x.call.name == "extents" && (b.ahead == "nothing" || b.ahead == "lines") {
				want(t, what, words(a.runs), x.runs)
			}
		}
	}
}

// P19.3: a mark that stands and is safe costs no barrier and no write; one that is dirty, or that waits at the disk, is made safe once more
func TestMarksThatStand(t *testing.T) {
	for _, x := range []struct {
		ahead            string
		writes, barriers uint64
	}{{"nothing", 0, 0}, {"lines", 0, 0}, {"waits", 0, 1}, {"dirtymark", 1, 1}} {
		for _, c := range []call{{"write", 500, 30, 1}, {"zero", 0, 1024, 0}, {"keep", 512, 512, 0}, {"trim", 100, 1000, 0}} {
			r := begin{16, x.ahead}.rig(t, none, "11000000")
			before := r.disk.Stats()
			play(t, r.track, c)
			now := r.disk.Stats()
			want(t, x.ahead+", "+c.String()+": writes and barriers", [2]uint64{now.Writes - before.Writes, now.Barriers - before.Barriers}, [2]uint64{x.writes, x.barriers})
			want(t, x.ahead+", "+c.String()+": safe", r.cache.Safe(smallMark), true)
		}
	}
}

// everyFault gives each operation of the disk between two of its counts, as a fault that fails it alone, not landing and landing.
func everyFault(from, to api.DiskStats) []api.Fault {
	var out []api.Fault
	for after := range int(to.Reads - from.Reads) {
		out = append(out, api.Fault{Kind: reading, Sector: -1, After: after, Times: 1})
	}
	for after := range int(to.Writes - from.Writes) {
		out = append(out, api.Fault{Kind: writing, Sector: -1, After: after, Times: 1}, api.Fault{Kind: writing, Sector: -1, After: after, Times: 1, Land: true})
	}
	for after := range int(to.Barriers - from.Barriers) {
		out = append(out, api.Fault{Kind: barring, Sector: -1, After: after, Times: 1})
	}
	return out
}

// P19.3 to P19.5, P19.8: each operation of the disk fails once: the call ends there with ErrIO and the byte at fault, and what was done ahead of it stays done
func TestWhatIsAskedFails(t *testing.T) {
	failed := 0
	for _, x := range askedOf {
		for _, b := range begins() {
			good := b.rig(t, x.bits, x.marks)
			from := good.disk.Stats()
			x.call.of(t, good.track)
			for _, f := range everyFault(from, good.disk.Stats()) {
				wantFailure(t, x, b, f)
				failed++
			}
		}
	}
	if failed < 1500 {
		t.Error("only", failed, "operations failed")
	}
}

func wantFailure(t *testing.T, x asked, b begin, f api.Fault) {
	t.Helper()
	r, twin := b.rig(t, x.bits, x.marks), b.rig(t, x.bits, x.marks)
	array := peekAll(t, r.track)
	arm(t, r.disk, f)
	arm(t, twin.disk, f)
	a := x.call.of(t, r.track)
	byHand := x.byHand(t, twin)
	what := x.call.String() + " over " + x.bits + ", marks " + x.marks + ", " + b.ahead
	wantErr(t, what+", by hand", byHand.e, api.ErrIO)
	wantAnswer(t, what, a, byHand)
	r.wantLook(t, what, twin.look())
	want(t, what+": faults", len(r.disk.Faults()), 0)
	wantHalfDone(t, x.call, r.track, array, a.at)
	// Nothing of the failure is kept: the same call goes well now.
	a = x.call.of(t, r.track)
	wantEnd(t, what+" again", a.at, a.e, 0, api.OK)
	wantBytes(t, what+" again", peekAll(t, r.track), x.call.changed(array))
}
