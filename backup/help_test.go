package backup_test

import (
	"bytes"
	"fmt"
	"slices"
	"testing"

	"spindle/api"
)

// The most bytes that a device may have.
const most = 512 * 65536

type (
	archive = api.Archive
	run     = api.ArchiveRun
	extent  = api.Extent
	ranges  = []api.Range
)

// Runs, by their places.
func hole(off, size uint64) run { return run{Off: off, Len: size, Hole: true} }
func data(off uint64, text string) run {
	return run{Off: off, Len: uint64(len(text)), Data: []byte(text)}
}

// full is a whole archive, as great as its runs.
func full(id uint64, runs ...run) archive {
	a := archive{ID: id, Runs: runs}
	for _, r := range runs {
		a.Size += r.Len
	}
	return a
}

// since is an archive of what was changed since another one.
func since(id, parent, size uint64, runs ...run) archive {
	return archive{ID: id, Parent: parent, Size: size, Runs: runs}
}

// Extents, by their lengths: what is laid out, and holes; each of them clean or dirty.
func laidOut(size uint64) extent { return extent{Len: size} }
func empty(size uint64) extent   { return extent{Len: size, Hole: true} }
func dirty(x extent) extent      { x.Dirty = true; return x }
func unsaved(x extent) extent    { x.Unsaved = true; return x }

// row lays extents end to end.
func row(list ...extent) []extent {
	off := uint64(0)
	for n := range list {
		list[n].Off = off
		off += list[n].Len
	}
	return list
}

// text gives n bytes, none of them 0 and each other than its neighbours.
func text(n int) string {
	b := make([]byte, n)
	for i := range b {
		b[i] = 1 + byte(i*7%251)
	}
	return string(b)
}

func zeros(n int) string { return string(make([]byte, n)) }

func want[T comparable](t *testing.T, what string, got, want T) {
	t.Helper()
	if got != want {
		t.Errorf("%s: %v, want %v", what, got, want)
	}
}

func wantErr(t *testing.T, what string, got, want api.Errno) {
	t.Helper()
	if got != want {
		t.Errorf("%s: error %d, want %d", what, got, want)
	}
}

func wantBytes(t *testing.T, what string, got, want []byte) {
	t.Helper()
	if bytes.Equal(got, want) {
		return
	}
	for i := range min(len(got), len(want)) {
		if got[i] != want[i] {
			t.Errorf("%s: byte %d is %#x, want %#x (%d bytes, want %d)", what, i, got[i], want[i], len(got), len(want))
			return
		}
	}
	t.Errorf("%s: %d bytes, want %d", what, len(got), len(want))
}

func wantRanges(t *testing.T, what string, got, want ranges) {
	t.Helper()
	if !slices.Equal(got, want) {
		t.Errorf("%s: %v, want %v", what, got, want)
	}
}

func wantArchive(t *testing.T, what string, got, want archive) {
	t.Helper()
	if !same(got, want) {
		t.Errorf("%s: %s, want %s", what, shown(got), shown(want))
	}
}

func same(a, b archive) bool {
	return a.ID == b.ID && a.Parent == b.Parent && a.Size == b.Size && slices.EqualFunc(a.Runs, b.Runs, sameRun)
}

func sameRun(a, b run) bool {
	return a.Off == b.Off && a.Len == b.Len && a.Hole == b.Hole && bytes.Equal(a.Data, b.Data)
}

// shown is an archive in so many words as one may read.
func shown(a archive) string {
	s := fmt.Sprintf("%d since %d, of %d:", a.ID, a.Parent, a.Size)
	for _, r := range a.Runs {
		s += fmt.Sprintf(" %d+%d", r.Off, r.Len)
		if r.Hole {
			s += " hole"
		}
		s += fmt.Sprintf(" %.40q", r.Data)
		if len(s) > 2000 {
			return s + " .."
		}
	}
	return s
}

func cloned(a archive) archive {
	a.Runs = slices.Clone(a.Runs)
	for n := range a.Runs {
		a.Runs[n].Data = slices.Clone(a.Runs[n].Data)
	}
	return a
}

// but gives a copy in which something is another.
func but(a archive, change func(*archive)) archive {
	out := cloned(a)
	change(&out)
	return out
}

// dice gives numbers that look as if thrown, the same ones in each run.
type dice uint64

func (d *dice) below(n int) int {
	*d = *d*6364136223846793005 + 1442695040888963407
	return int(uint64(*d)>>33) % n
}

func (d *dice) bool() bool { return d.below(2) == 1 }

// pick throws for one of a list.
func pick[T any](d *dice, list ...T) T { return list[d.below(len(list))] }

// wantMade asks for what Make gives, and holds what follows against the chapter.
func wantMade(t *testing.T, what string, id, parent uint64, b string, l []extent, wanted archive) archive {
	t.Helper()
	got, e := makeOf(t, id, parent, []byte(b), l)
	wantErr(t, what+": Make", e, api.OK)
	wantArchive(t, what+": Make", got, wanted)
	hold(t, what, got)
	return got
}

func wantNotMade(t *testing.T, what string, id, parent uint64, b string, l []extent, wanted api.Errno) {
	t.Helper()
	_, e := makeOf(t, id, parent, []byte(b), l)
	wantErr(t, what+": Make", e, wanted)
}

func wantDecoded(t *testing.T, what string, b []byte, wanted api.Errno) {
	t.Helper()
	_, e := decodeOf(t, b)
	wantErr(t, what+": Decode", e, wanted)
}

// wantRestored asks for a chain's bytes.
func wantRestored(t *testing.T, what string, wanted string, chain ...archive) {
	t.Helper()
	b, at, e := restoreOf(t, chain)
	wantErr(t, what+": Restore", e, api.OK)
	want(t, what+": Restore's place", at, 0)
	wantBytes(t, what+": Restore", b, []byte(wanted))
}

func wantNotRestored(t *testing.T, what string, place int, wanted api.Errno, chain ...archive) {
	t.Helper()
	_, at, e := restoreOf(t, chain)
	wantErr(t, what+": Restore", e, wanted)
	want(t, what+": Restore's place", at, place)
}

func wantJoined(t *testing.T, what string, a, b, wanted archive) archive {
	t.Helper()
	got, e := joinOf(t, a, b)
	wantErr(t, what+": Join", e, api.OK)
	wantArchive(t, what+": Join", got, wanted)
	hold(t, what+", joined", got)
	return got
}

func wantNotJoined(t *testing.T, what string, a, b archive, wanted api.Errno) {
	t.Helper()
	_, e := joinOf(t, a, b)
	wantErr(t, what+": Join", e, wanted)
}
