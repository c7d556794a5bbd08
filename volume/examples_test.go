package volume_test

import (
	"bytes"
	"testing"

	"spindle/api"
	"spindle/disk"
	"spindle/volume"
)

// chapterRig is the chapter's: a disk of 16 sectors, a cache of 4 lines, notes {0, 1}, data {2, 8}.
func chapterRig(t *testing.T) rig {
	t.Helper()
	d, e := disk.New(16)
	wantErr(t, "the disk", e, api.OK)
	c := cacheOver(t, d, 4, api.Span{First: 0, Count: 1})
	v := open(t, c, placeAt(0, 1, 2, 8))
	want(t, "Size", v.Size(), 4096)
	return rig{d, c, v}
}

func (r rig) write(t *testing.T, off uint64, text string) {
	t.Helper()
	at, e := r.volume.Write(off, []byte(text))
	wantEnd(t, "Write of "+text, at, e, 0, api.OK)
}

func (r rig) wantFirstNote(t *testing.T, b byte) {
	t.Helper()
	note, e := r.cache.Peek(0)
	wantErr(t, "the note sector", e, api.OK)
	wantBytes(t, "the note sector", note, append([]byte{b}, make([]byte, 511)...))
}

func TestExample1(t *testing.T) {
	r := chapterRig(t)
	wantRead(t, r.volume, 0, make([]byte, 600))
	want(t, "the cache's counts", r.cache.Stats(), api.CacheStats{Hits: 1, Misses: 1})
	want(t, "the disk's counts", r.disk.Stats(), api.DiskStats{Reads: 1})
}

func TestExamples2And3(t *testing.T) {
	r := chapterRig(t)
	v := r.volume
	r.write(t, 510, "abcd")
	r.wantFirstNote(t, 0xc0)
	wantRead(t, v, 508, []byte("\x00\x00abcd\x00\x00"))
	wantRead(t, v, 0, append(append(make([]byte, 510), "abcd"...), make([]byte, 4096-514)...))
	wantRuns(t, v, 0, 2048, "0+1024u 1024+1024hu")
	wantErr(t, "Flush", v.Flush(), api.OK)
	wantRuns(t, v, 0, 2048, "0+1024 1024+1024h")

	play(t, v, call{name: "trim", off: 100, n: 1000})
	r.wantFirstNote(t, 0x80)
	wantRead(t, v, 508, []byte("\x00\x00ab\x00\x00\x00\x00"))
	play(t, v, call{name: "zero", off: 511, n: 1})
	wantRead(t, v, 508, []byte("\x00\x00a\x00\x00\x00\x00\x00"))
	r.write(t, 511, "b")
	play(t, v, call{name: "keep", off: 511, n: 1})
	wantRead(t, v, 508, []byte("\x00\x00a\x00\x00\x00\x00\x00"))
	play(t, v, call{name: "zero", off: 2000, n: 100})
	r.wantFirstNote(t, 0x80)
	play(t, v, call{name: "keep", off: 1024, n: 512})
	r.wantFirstNote(t, 0xa0)
	wantRuns(t, v, 0, 2048, "0+512u 512+512hu 1024+512u 1536+512hu")
	wantRead(t, v, 1024, make([]byte, 512))
}

func TestExample4(t *testing.T) {
	v := chapterRig(t).volume
	at, e := v.Write(4096, []byte("a"))
	wantEnd(t, "one byte at the end", at, e, 0, api.ErrBounds)
	at, e = v.Write(4096, []byte(""))
	wantEnd(t, "nothing at the end", at, e, 0, api.OK)
	for _, c := range []call{{name: "read", off: 18446744073709551615, n: 1}, {name: "read", off: 0, n: -1}} {
		a := c.of(t, v)
		wantEnd(t, c.String(), a.at, a.e, 0, api.ErrBounds)
	}
}

func TestExample5(t *testing.T) {
	r := chapterRig(t)
	for _, p := range []api.Place{placeAt(0, 1, 2, 4097), placeAt(0, 1, 0, 4), placeAt(0, 1, 2, 15)} {
		v, e := volume.Open(r.cache, p)
		if v != nil || e != api.ErrPlace {
			t.Errorf("Open(%v): %v, error %d, want error %d", p, v != nil, e, api.ErrPlace)
		}
	}
	wantBytes(t, "the disk", r.disk.Image(), bytes.Repeat([]byte{0}, 16*512))
}
