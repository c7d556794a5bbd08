package volume_test

import (
	"strconv"
	"strings"
	"testing"

	"spindle/api"
	"spindle/volume"
)

// asked is a call of the small volume with these bits, and what it asks of the cache.
//
// A word of hand is a call of the cache: r3 reads sector 3; w5 writes sector 5 with the bytes that the volume's array has there behind the call; w3:1000 writes the note sector with these bits; t5,3 is Through; f is Flush. A word @510 says that for those behind it byte 510 is the one at fault.
type asked struct {
	bits string
	call call
	hand string
	runs string // of extents
}

var askedOf = []asked{
	// P7.3: reads, of holes and of laid out sectors side by side
	{bits: "00000000", call: call{name: "read", off: 0, n: 600}, hand: "@0 r3 @512 r3"},
	{bits: "10110000", call: call{name: "read", off: 100, n: 1000}, hand: "@100 r3 r5 @512 r3 @1024 r3 r7"},
	{bits: "01000001", call: call{name: "read", off: 0, n: 4096}, hand: "@0 r3 @512 r3 r6 @1024 r3 @1536 r3 @2048 r3 @2560 r3 @3072 r3 @3584 r3 r12"},
	{bits: "11111111", call: call{name: "read", off: 512, n: 512}, hand: "@512 r3 r6"},
	{bits: "11111111", call: call{name: "read", off: 511, n: 514}, hand: "@511 r3 r5 @512 r3 r6 @1024 r3 r7"},
	{bits: "11111111", call: call{name: "read", off: 513, n: 510}, hand: "@513 r3 r6"},
	{bits: "11111111", call: call{name: "read", off: 4095, n: 1}, hand: "@4095 r3 r12"},
	{bits: "10110000", call: call{name: "fetch", off: 100, n: 1000}, hand: "@100 r3 r5 @512 r3 @1024 r3 r7"},
	{bits: "00010000", call: call{name: "fetch", off: 1535, n: 2}, hand: "@1535 r3 @1536 r3 r8"},
	{bits: "11111111", call: call{name: "fetch", off: 512, n: 1024}, hand: "@512 r3 r6 @1024 r3 r7"},

	// P7.4: writes within a sector, over an edge, of all of a sector; into holes and over what is laid out
	{bits: "00000000", call: call{"write", 510, 4, 1}, hand: "@510 r3 w5 r3 w3:10000000 @512 r3 w6 r3 w3:11000000"},
	{bits: "11000000", call: call{"write", 510, 4, 1}, hand: "@510 r3 r5 w5 @512 r3 r6 w6"},
	{bits: "00000000", call: call{"write", 1024, 512, 2}, hand: "@1024 r3 w7 r3 w3:00100000"},
	{bits: "00100000", call: call{"write", 1024, 512, 2}, hand: "@1024 r3 w7"},
	{bits: "00100000", call: call{"write", 1024, 511, 2}, hand: "@1024 r3 r7 w7"},
	{bits: "00100000", call: call{"write", 1025, 511, 2}, hand: "@1025 r3 r7 w7"},
	{bits: "00000000", call: call{"write", 1025, 511, 2}, hand: "@1025 r3 w7 r3 w3:00100000"},
	{bits: "10010001", call: call{"write", 300, 1500, 3}, hand: "@300 r3 r5 w5 @512 r3 w6 r3 w3:11010001 @1024 r3 w7 r3 w3:11110001 @1536 r3 r8 w8"},
	{bits: "00010010", call: call{"write", 3000, 1096, 4}, hand: "@3000 r3 w10 r3 w3:00010110 @3072 r3 w11 @3584 r3 w12 r3 w3:00010111"},

	// P7.5: zeros that keep are written
	{bits: "01010000", call: call{"keep", 300, 1400, 0}, hand: "@300 r3 w5 r3 w3:11010000 @512 r3 w6 @1024 r3 w7 r3 w3:11110000 @1536 r3 r8 w8"},
	{bits: "00000000", call: call{"keep", 512, 512, 0}, hand: "@512 r3 w6 r3 w3:01000000"},

	// P7.5: those that don't leave holes alone
	{bits: "00000000", call: call{"zero", 300, 1400, 0}, hand: "@300 r3 @512 r3 @1024 r3 @1536 r3"},
	{bits: "11111111", call: call{"zero", 300, 1400, 0}, hand: "@300 r3 r5 w5 @512 r3 r3 w3:10111111 @1024 r3 r3 w3:10011111 @1536 r3 r8 w8"},
	{bits: "01010000", call: call{"zero", 512, 1536, 0}, hand: "@512 r3 r3 w3:00010000 @1024 r3 @1536 r3 r3 w3:00000000"},
	{bits: "11111111", call: call{"zero", 511, 1, 0}, hand: "@511 r3 r5 w5"},
	{bits: "11111111", call: call{"zero", 512, 511, 0}, hand: "@512 r3 r6 w6"},
	{bits: "11111111", call: call{"zero", 513, 511, 0}, hand: "@513 r3 r6 w6"},
	{bits: "10000000", call: call{"zero", 0, 513, 0}, hand: "@0 r3 r3 w3:00000000 @512 r3"},

	// P7.6: trims of whole sectors alone
	{bits: "11111111", call: call{"trim", 100, 1000, 0}, hand: "@512 r3 r3 w3:10111111"},
	{bits: "11111111", call: call{"trim", 1, 1022, 0}, hand: ""},
	{bits: "11111111", call: call{"trim", 512, 511, 0}, hand: ""},
	{bits: "11111111", call: call{"trim", 513, 511, 0}, hand: ""},
	{bits: "11111111", call: call{"trim", 511, 513, 0}, hand: "@512 r3 r3 w3:10111111"},
	{bits: "11111111", call: call{"trim", 512, 513, 0}, hand: "@512 r3 r3 w3:10111111"},
	{bits: "01011001", call: call{"trim", 0, 4096, 0}, hand: "@0 r3 @512 r3 r3 w3:00011001 @1024 r3 @1536 r3 r3 w3:00001001 @2048 r3 r3 w3:00000001 @2560 r3 @3072 r3 @3584 r3 r3 w3:00000000"},

	// P7.7: one Through, also of holes; one Flush
	{bits: "10100000", call: call{"sync", 511, 514, 0}, hand: "t5,3,6,3,7,3"},
	{bits: "10100000", call: call{"sync", 4095, 1, 0}, hand: "t12,3"},
	{bits: "10100000", call: call{"sync", 512, 512, 0}, hand: "t6,3"},
	{bits: "10100000", call: call{"flush", 0, 0, 0}, hand: "f"},

	// P7.8: each touched sector is looked at, no data sector is read
	{bits: "11011000", call: call{"extents", 100, 3000, 0}, hand: "@100 r3 @512 r3 @1024 r3 @1536 r3 @2048 r3 @2560 r3 @3072 r3", runs: "100+924 1024+512h 1536+1024 2560+540h"},
	{bits: "00000000", call: call{"extents", 513, 1, 0}, hand: "@513 r3", runs: "513+1h"},
	{bits: "01000000", call: call{"extents", 511, 514, 0}, hand: "@511 r3 @512 r3 @1024 r3", runs: "511+1h 512+512 1024+1h"},

	// P7.9: nothing
	{bits: "10110000", call: call{"peek", 100, 3000, 0}, hand: ""},
}

// byHand makes the calls of the cache, until one of them goes wrong.
func (x asked) byHand(t *testing.T, r rig, array []byte) (uint64, api.Errno) {
	t.Helper()
	at, e := uint64(0), api.OK
	for _, word := range strings.Fields(x.hand) {
		rest, bits, _ := strings.Cut(word[1:], ":")
		numbers := numbersOf(t, rest)
		switch word[0] {
		case '@':
			at = uint64(numbers[0])
		case 'r':
			_, e = r.cache.Read(numbers[0])
		case 'w':
			b := noteOf(bits)
			if numbers[0] != smallNote {
				b = bytesOf(array, numbers[0]-smallData)
			}
			e = r.cache.Write(numbers[0], b)
		case 't':
			e = r.cache.Through(numbers)
		case 'f':
			e = r.cache.Flush()
		}
		if e != api.OK {
			return at, e
		}
	}
	return 0, api.OK
}

func numbersOf(t *testing.T, text string) []int {
	t.Helper()
	var out []int
	for _, word := range strings.FieldsFunc(text, func(r rune) bool { return r == ',' }) {
		n, err := strconv.Atoi(word)
		if err != nil {
			t.Fatal(err)
		}
		out = append(out, n)
	}
	return out
}

// A way in which the small volume's cache is when it is asked.
type begin struct {
	lines int
	dirty []call // what was done to the volume ahead
}

// begins are caches with few lines and with many; without lines, and with all that there can be.
func begins() []begin {
	var out []begin
	for _, lines := range []int{1, 2, 3, 16} {
		out = append(out, begin{lines, nil}, begin{lines, []call{{"write", 0, smallSize, 77}, {"trim", 0, smallSize, 0}}}, begin{lines, []call{{"write", 2000, 600, 78}, {"zero", 2100, 100, 0}}})
	}
	return out
}

// rig gives the small volume with these bits in the end; what was done ahead has left lines, counts and a queue, none of which tell otherwise.
func (b begin) rig(t *testing.T, bits string) rig {
	t.Helper()
	r := rigOf(t, b.lines, bits)
	if len(b.dirty) > 0 {
		play(t, r.volume, b.dirty...)
		wantErr(t, "Write of the cache", r.cache.Write(smallNote, noteOf(bits)), api.OK)
	}
	return r
}

// P7.3 to P7.9: the calls of the cache, in their order and number: the same lines, counts, queue and bytes come of them as of the calls by hand
func TestWhatIsAsked(t *testing.T) {
	for _, x := range askedOf {
		for _, b := range begins() {
			r, twin := b.rig(t, x.bits), b.rig(t, x.bits)
			array := peekAll(t, r.volume)
			a := x.call.of(t, r.volume)
			at, e := x.byHand(t, twin, x.call.changed(array))
			wantEnd(t, "by hand", at, e, 0, api.OK)
			wantEnd(t, x.call.String(), a.at, a.e, 0, api.OK)
			wantLook(t, x.call.String()+" over "+x.bits, r.disk, r.cache, lookAt(twin.disk, twin.cache))
			wantBytes(t, x.call.String(), peekAll(t, r.volume), x.call.changed(array))
			if x.call.name == "read" || x.call.name == "peek" {
				wantBytes(t, x.call.String(), a.bytes, array[x.call.off:][:x.call.n])
			}
			if x.call.name == "extents" && len(b.dirty) == 0 {
				want(t, x.call.String(), words(a.runs), x.runs)
			}
		}
	}
}

// everyFault gives each operation of the disk between two of its counts, as a fault that fails it alone, not landing and landing.
func everyFault(from, to api.DiskStats) []api.Fault {
	var out []api.Fault
	for after := range int(to.Reads - from.Reads) {
		out = append(out, api.Fault{Kind: reading, Sector: -1, After: after, Times: 1})
	}
	for after := range int(to.Writes - from.Writes) {
		out = append(out, api.Fault{Kind: writing, Sector: -1, After: after, Times: 1}, api.Fault{Kind: writing, Sector: -1, After: after, Times: 1, Land: true})
	}
	for after := range int(to.Barriers - from.Barriers) {
		out = append(out, api.Fault{Kind: barring, Sector: -1, After: after, Times: 1})
	}
	return out
}

// P7.3 to P7.8, P7.10: each operation of the disk fails once: the call ends there with ErrIO and the byte at fault, and what was done ahead of it stays done
func TestWhatIsAskedFails(t *testing.T) {
	failed := 0
	for _, x := range askedOf {
		for _, b := range begins() {
			good := b.rig(t, x.bits)
			from := good.disk.Stats()
			x.call.of(t, good.volume)
			for _, f := range everyFault(from, good.disk.Stats()) {
				wantFailure(t, x, b, f)
				failed++
			}
		}
	}
	if failed < 1000 {
		t.Error("only", failed, "operations failed")
	}
}

func wantFailure(t *testing.T, x asked, b begin, f api.Fault) {
	t.Helper()
	r, twin := b.rig(t, x.bits), b.rig(t, x.bits)
	array := peekAll(t, r.volume)
	arm(t, r.disk, f)
	arm(t, twin.disk, f)
	a := x.call.of(t, r.volume)
	at, e := x.byHand(t, twin, x.call.changed(array))
	wantErr(t, "by hand", e, api.ErrIO)
	what := x.call.String() + " over " + x.bits
	wantEnd(t, what, a.at, a.e, at, api.ErrIO)
	wantLook(t, what, r.disk, r.cache, lookAt(twin.disk, twin.cache))
	want(t, what+": faults", len(r.disk.Faults()), 0)
	wantHalfDone(t, x.call, r.volume, array, a.at)
	// Nothing of the failure is kept: the same call goes well now.
	a = x.call.of(t, r.volume)
	wantEnd(t, what+" again", a.at, a.e, 0, api.OK)
	wantBytes(t, what+" again", peekAll(t, r.volume), x.call.changed(array))
}

// wantHalfDone looks at a volume behind a call that failed at a byte: changed are the sectors ahead of that one, and perhaps that one (P7.10).
func wantHalfDone(t *testing.T, c call, v *volume.Volume, array []byte, at uint64) {
	t.Helper()
	now, all := peekAll(t, v), c.changed(array)
	for s := range len(now) / api.SectorSize {
		is, was, becomes := string(bytesOf(now, s)), string(bytesOf(array, s)), string(bytesOf(all, s))
		fault := int(at) / api.SectorSize
		switch {
		case s < fault && is != becomes:
			t.Errorf("%v failed at byte %d: sector %d, ahead of it, is not what the call makes it", c, at, s)
		case s == fault && is != becomes && is != was:
			t.Errorf("%v failed at byte %d: sector %d is neither what it was nor what the call makes it", c, at, s)
		case s > fault && is != was:
			t.Errorf("%v failed at byte %d: sector %d, behind it, is not what it was", c, at, s)
		}
	}
}
