package cache_test

import (
	"strings"
	"testing"

	"spindle/api"
	"spindle/cache"
	"spindle/disk"
)

// afterEachCrash lets copies of a disk fall, with each mixture of its queue, and tells what each of them has then, a letter a sector.
func afterEachCrash(d *disk.Disk) []string {
	var told []string
	n := len(d.Queue())
	for mixture := range 1 << n {
		keep := make([]bool, n)
		for i := range keep {
			keep[i] = mixture>>i&1 == 1
		}
		copied := d.Copy()
		copied.Crash(keep)
		told = append(told, safeLetters(copied))
	}
	return told
}

// wantAfterCrash looks at each sector behind each crash: it has one of the letters that this sector may have then.
func wantAfterCrash(t *testing.T, what string, d *disk.Disk, may ...string) {
	t.Helper()
	for _, told := range afterEachCrash(d) {
		for n, l := range told {
			if !strings.ContainsRune(may[n], l) {
				t.Errorf("%s: behind a crash sector %d has %c, and may have one of %s", what, n, l, may[n])
			}
		}
	}
}

// P5.8: a sector's bytes are those of the last write that answered OK, whatever failed
func TestWhatIsReadBehindFaults(t *testing.T) {
	for _, land := range []bool{false, true} {
		d, c := made(t, 2, "abcdefgh")
		play(t, c, "w3A w4B")
		arm(t, d, writing, 3, 0, 1, land)
		fails(t, c, "b", api.ErrIO)
		play(t, c, "w3C")
		wantPeeks(t, "written anew behind a failure", c, "abcCBfgh")
		play(t, c, "r5 r6")
		wantLines(t, "both gave way", c, "5 6")
		wantPeeks(t, "both gave way", c, "abcCBfgh")
		wantRead(t, c, 3, full('C'))
		arm(t, d, reading, 4, 0, 1, false)
		fails(t, c, "r4", api.ErrIO)
		wantPeeks(t, "a read failed", c, "abcCBfgh")
		play(t, c, "w7D w5E")
		arm(t, d, writing, 7, 0, 2, land)
		fails(t, c, "w4F", api.ErrIO)
		wantPeeks(t, "a write without room is none", c, "abcCBEgD")
		fails(t, c, "f", api.ErrIO)
		wantPeeks(t, "a flush failed", c, "abcCBEgD")
		play(t, c, "f")
		wantSafe(t, "at last", d, "abcCBEgD")
	}
}

// P5.9: when a note comes into the disk's queue all data are safe, by each way to a Flush, the note's write failing or not
func TestNotesComeLast(t *testing.T) {
	ways := []struct{ what, call string }{{"Flush", "f"}, {"Through", "t0"}, {"Through of all", "t4,0,3"}}
	for _, way := range ways {
		for _, f := range []api.Fault{
			{Kind: writing, Sector: 0, Times: 1, Land: true},
			{Kind: writing, Sector: 1, Times: 1, Land: true},
			{Kind: writing, Sector: 1, Times: 1},
			{Kind: barring, Sector: -1, After: 1, Times: 1},
		} {
			d, c := made(t, 4, "abcdefgh")
			play(t, c, "w3A w4B w5C w0D w1E w5F") // 3 has given way, 4 and 5 are dirty
			play(t, c, "b w4G")                   // 4 waits as B, and is dirty as G
			wantErr(t, "Fault", d.Fault(f), api.OK)
			fails(t, c, way.call, api.ErrIO)
			want(t, way.what+": a note waits", d.Waits(0), true)
			wantSafe(t, way.what+": the data are safe", d, "abcAGFgh")
			wantAfterCrash(t, way.what, d, "aD", "bE", "c", "A", "G", "F", "g", "h")
			play(t, c, "w4H b w3I")
			wantAfterCrash(t, way.what+", and written on", d, "aD", "bE", "c", "A", "GH", "F", "g", "h")
		}
	}
}

// P5.9: also a note that gives way because all lines are dirty notes comes behind the data that wait at the disk
func TestNotesThatGiveWayComeLast(t *testing.T) {
	for _, call := range []string{"r6", "w6Z", "r0", "w0Z"} {
		d, c := made(t, 1, "abcdefgh")
		play(t, c, "w3A w4B w3C w1D")
		wantQueue(t, "the data wait", d, "3A 4B 3C")
		arm(t, d, writing, 1, 0, 1, true)
		fails(t, c, call, api.ErrIO)
		wantQueue(t, "the note waits", d, "1D")
		wantSafe(t, "the data are safe", d, "abcCBfgh")
		wantAfterCrash(t, "the note waits", d, "a", "bD", "c", "C", "B", "f", "g", "h")
	}
}

// P5.9: no note is handed to the disk while data can't be made safe
func TestNoNoteAheadOfItsData(t *testing.T) {
	for _, f := range []api.Fault{
		{Kind: writing, Sector: 4, Times: 1000},
		{Kind: writing, Sector: 4, Times: 1000, Land: true},
		{Kind: barring, Sector: -1, Times: 1000},
	} {
		d, c := made(t, 3, "abcdefgh")
		play(t, c, "w0A w4B w1C")
		wantErr(t, "Fault", d.Fault(f), api.OK)
		for _, word := range strings.Fields("f t0 r5 w6D f t1,4 w5E b r7 r2 t0 f w0F w1G f r3 w3H f") {
			call(t, c, word)
			want(t, "a note waits behind "+word, d.Waits(0) || d.Waits(1), false)
			want(t, "the notes behind "+word, safeLetters(d)[:2], "ab")
		}
	}
}

// P5.9: behind a Flush that answered OK every sector is safe; behind a Through the ones that were named
func TestWhatWasToldSafe(t *testing.T) {
	for _, call := range []string{"f", "t0", "t1,3"} {
		d, c := made(t, 3, "abcdefgh")
		play(t, c, "w3A w4B w0C w5D w1E "+call)
		wantAfterCrash(t, call, d, "C", "E", "c", "A", "B", "D", "g", "h")
		wantSafeSectors(t, call, c, "++++++++")
		play(t, c, "w3F w0G b")
		wantAfterCrash(t, call+", and written on", d, "C", "E", "c", "AF", "B", "D", "g", "h")
	}
	d, c := made(t, 3, "abcdefgh")
	play(t, c, "w3A w4B w0C t3")
	wantAfterCrash(t, "one sector", d, "a", "b", "c", "A", "e", "f", "g", "h")
	play(t, c, "w3D b w3E t4,3")
	wantAfterCrash(t, "two sectors", d, "a", "b", "c", "E", "B", "f", "g", "h")
}

// P5.9, P5.8: behind a crash a new cache tells what the disk has
func TestANewCacheBehindACrash(t *testing.T) {
	for mixture := range 16 {
		d, c := made(t, 1, "abcdefgh")
		play(t, c, "w3A w4B w3C w5D w6E")
		wantQueue(t, "ahead of the crash", d, "3A 4B 3C 5D")
		var keep []bool
		expect := []rune("abcdefgh")
		for i, put := range d.Queue() {
			keep = append(keep, mixture>>i&1 == 1)
			if keep[i] {
				expect[put.Sector] = rune(put.Data[0])
			}
		}
		d.Crash(keep)
		c = over(t, d, 3, api.Span{First: 0, Count: 2})
		wantPeeks(t, "behind a crash", c, string(expect))
		wantSafeSectors(t, "behind a crash", c, "++++++++")
		for n, l := range expect {
			wantRead(t, c, n, full(l))
		}
	}
}

// P5.10: what Safe tells to be safe a crash leaves as Peek tells it, behind each call
func TestSafeIsSafe(t *testing.T) {
	for _, land := range []bool{false, true} {
		for lines := 1; lines <= 4; lines++ {
			d, c := made(t, lines, "abcdefgh")
			for i, word := range strings.Fields("w3A r4 w0B b w5C w3D r6 t5 w1E w4F b f w3G w2H r3 t2 w0I w1J w5K r7 w6L t0 w4M b b w3N r0 f") {
				if i%3 == 0 && len(d.Faults()) < 6 {
					arm(t, d, 1+i%2*2, -1, 1, 1, land)
					arm(t, d, writing, -1, 2, 1, land)
				}
				call(t, c, word)
				wantSafeIsSafe(t, "behind "+word, c, d)
			}
		}
	}
}

func wantSafeIsSafe(t *testing.T, what string, c *cache.Cache, d *disk.Disk) {
	t.Helper()
	may := make([]string, d.Sectors())
	for n := range may {
		b, e := c.Peek(n)
		wantErr(t, what+": Peek", e, api.OK)
		if may[n] = letter(b); !c.Safe(n) {
			may[n] = "abcdefghABCDEFGHIJKLMN"
		}
	}
	wantAfterCrash(t, what, d, may...)
}
