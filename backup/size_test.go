package backup_test

import (
	"bytes"
	"slices"
	"testing"

	"spindle/api"
	"spindle/backup"
)

// P25.2, R7: a device of the greatest size, and one of a byte more.
func TestMakeOfTheGreatestSize(t *testing.T) {
	b := bytes.Repeat([]byte{7}, most+1)
	_, e := backup.Make(1, 0, b, row(laidOut(most+1)))
	wantErr(t, "a byte more", e, api.ErrArg)
	_, e = backup.Make(2, 1, b, nil)
	wantErr(t, "a byte more, and no extents", e, api.ErrArg)

	clear(b[1000:2000])
	one, e := backup.Make(1, 0, b[:most], row(laidOut(1000), empty(1000), laidOut(most-2000)))
	wantErr(t, "the greatest size", e, api.OK)
	wanted := full(1, data(0, string(b[:1000])), hole(1000, 1000), data(2000, string(b[2000:most])))
	want(t, "the greatest size", same(one, wanted), true)

	laid, e := backup.Encode(one)
	wantErr(t, "Encode", e, api.OK)
	want(t, "Encode's length", len(laid), 44+21+1000+4+21+21+most-2000+4)
	back, e := backup.Decode(laid)
	wantErr(t, "Decode", e, api.OK)
	want(t, "Decode of Encode", same(back, one), true)

	b[most-1], b[most] = 9, 9
	two, e := backup.Make(2, 1, b[:most], row(laidOut(most-1), dirty(laidOut(1))))
	wantErr(t, "what is dirty", e, api.OK)
	wantArchive(t, "what is dirty", two, since(2, 1, most, data(most-1, "\t")))
	device, _, e := backup.Restore([]archive{one, two})
	wantErr(t, "Restore", e, api.OK)
	want(t, "Restore", bytes.Equal(device, b[:most]), true)
	joined, e := backup.Join(one, two)
	wantErr(t, "Join", e, api.OK)
	wanted.ID, wanted.Runs[2] = 2, data(2000, string(b[2000:most]))
	want(t, "Join", same(joined, wanted), true)
	wantRanges(t, "Changed", changedOf(t, since(2, 1, most, data(most-1, "a"))), ranges{{Lo: most - 1, Hi: most}})
}

// P25.4: a Size that may not be is found behind the last run alone.
func TestDecodeOfOtherSizes(t *testing.T) {
	for _, size := range []uint64{0, most + 1, 1 << 32, 1<<64 - 1} {
		wantDecoded(t, "a Size that may not be", headBytes(2, 1, size, 0), api.ErrArchive)
		wantDecoded(t, "a Size that may not be, a run to come", headBytes(2, 1, size, 1), api.ErrCut)
		wantDecoded(t, "a Size that may not be, a byte behind", append(headBytes(2, 1, size, 0), 0), api.ErrCut)
	}
	wantDecoded(t, "the greatest Size", headBytes(2, 1, most, 0), api.OK)
	wantDecoded(t, "the least Size", headBytes(2, 1, 1, 0), api.OK)
}

// striped has as many runs as may be in so many bytes, the first one of the kind.
func striped(id, parent uint64, size int, holes bool) archive {
	a := archive{ID: id, Parent: parent, Size: uint64(size), Runs: make([]run, 0, size)}
	for at := range size {
		if (at%2 == 0) == holes {
			a.Runs = append(a.Runs, hole(uint64(at), 1))
		} else {
			a.Runs = append(a.Runs, data(uint64(at), string([]byte{byte(1 + at%255)})))
		}
	}
	return a
}

// P25.3 to P25.7: archives of very many runs, and chains of very many archives, take no more than their time.
func TestManyRuns(t *testing.T) {
	const size = 100000
	one := striped(1, 0, size, true)
	laid, e := backup.Encode(one)
	wantErr(t, "Encode", e, api.OK)
	want(t, "Encode's length", len(laid), 44+21*size+5*size/2)
	back, e := backup.Decode(laid)
	wantErr(t, "Decode", e, api.OK)
	want(t, "Decode of Encode", same(back, one), true)
	wantRanges(t, "Changed", backup.Changed(one), ranges{{Lo: 0, Hi: size}})

	two := striped(2, 1, size, false)
	joined, e := backup.Join(one, two)
	wantErr(t, "Join", e, api.OK)
	want(t, "Join", same(joined, striped(2, 0, size, false)), true)

	chain := []archive{one}
	for n := range uint64(40) {
		next := striped(n+2, n+1, size, n%2 == 0)
		next.Runs = slices.Delete(next.Runs, int(n), size-int(n)*100)
		chain = append(chain, next)
	}
	device, _, e := backup.Restore(chain)
	wantErr(t, "Restore", e, api.OK)
	wanted := bytesOf(overAll(chain))
	want(t, "Restore", bytes.Equal(device, wanted), true)
}

func overAll(chain []archive) cells {
	c := cellsOf(chain[0])
	for _, a := range chain[1:] {
		c = over(c, cellsOf(a))
	}
	return c
}

// P25.5: a chain of very many archives over one of very many runs.
func TestManyArchives(t *testing.T) {
	const size, length = 100000, 5000
	chain := []archive{striped(1, 0, size, true)}
	for n := range uint64(length) {
		chain = append(chain, since(n+2, n+1, size, data(n*7%(size-1), "xy")))
	}
	device, at, e := backup.Restore(chain)
	wantErr(t, "Restore", e, api.OK)
	want(t, "Restore's place", at, 0)
	want(t, "Restore", bytes.Equal(device, bytesOf(overAllRuns(chain))), true)
}

// overAllRuns lays the runs of later archives down one by one, without a row for each archive.
func overAllRuns(chain []archive) cells {
	c := cellsOf(chain[0])
	for _, a := range chain[1:] {
		for _, r := range a.Runs {
			for i, value := range r.Data {
				c[r.Off+uint64(i)] = int(value)
			}
		}
	}
	return c
}

// P25.2: very many extents.
func TestManyExtents(t *testing.T) {
	const size = 300000
	b := []byte(text(size))
	l := make([]extent, size)
	for i := range l {
		l[i] = extent{Off: uint64(i), Len: 1, Dirty: i%2 == 0}
	}
	whole, e := backup.Make(1, 0, b, l)
	wantErr(t, "Make", e, api.OK)
	want(t, "Make", same(whole, full(1, data(0, string(b)))), true)
	part, e := backup.Make(2, 1, b, l)
	wantErr(t, "Make of what is dirty", e, api.OK)
	want(t, "its runs", len(part.Runs), size/2)
	wantErr(t, "Check", backup.Check(part), api.OK)
}
