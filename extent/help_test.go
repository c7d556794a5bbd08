package extent_test

import (
	"slices"
	"testing"

	"spindle/api"
	"spindle/extent"
)

type run = extent.Run[string]

func wantErr(t *testing.T, what string, got, want api.Errno) {
	t.Helper()
	if got != want {
		t.Errorf("%s: error %d, want %d", what, got, want)
	}
}

// made gives a map that New must not refuse.
func made[V comparable](t *testing.T, size int64, v V) *extent.Map[V] {
	t.Helper()
	m, e := extent.New(size, v)
	if e != api.OK || m == nil {
		t.Fatalf("New(%d, %v): %v, %d", size, v, m, e)
	}
	return m
}

// set makes a change that Set must not refuse.
func set[V comparable](t *testing.T, m *extent.Map[V], lo, hi int64, v V) {
	t.Helper()
	if e := m.Set(lo, hi, v); e != api.OK {
		t.Fatalf("Set(%d, %d, %v): error %d", lo, hi, v, e)
	}
}

// letters gives a map with one place for each letter.
func letters(t *testing.T, s string) *extent.Map[string] {
	t.Helper()
	m := made(t, int64(len(s)), "")
	for i := range s {
		set(t, m, int64(i), int64(i)+1, s[i:i+1])
	}
	return m
}

// told gathers what an answer of Runs tells.
func told[V comparable](m *extent.Map[V], lo, hi int64) []extent.Run[V] {
	return slices.Collect(m.Runs(lo, hi))
}

func wantRuns[V comparable](t *testing.T, what string, got []extent.Run[V], want ...extent.Run[V]) {
	t.Helper()
	if !slices.Equal(got, want) {
		t.Errorf("%s: %v, want %v", what, got, want)
	}
}

// wantAll looks that a map has just these runs, by each of the calls that tell of them.
func wantAll[V comparable](t *testing.T, what string, m *extent.Map[V], want ...extent.Run[V]) {
	t.Helper()
	wantRuns(t, what, told(m, 0, m.Size()), want...)
	if m.Count() != len(want) {
		t.Errorf("%s: Count %d, want %d", what, m.Count(), len(want))
	}
	for _, r := range want {
		for _, i := range []int64{r.Lo, r.Lo + (r.Hi-r.Lo)/2, r.Hi - 1} {
			if v, ok := m.At(i); v != r.V || !ok {
				t.Errorf("%s: At(%d): %v, %v, want %v", what, i, v, ok, r.V)
			}
		}
	}
}

func wantRanges(t *testing.T, what string, got []api.Range, want ...api.Range) {
	t.Helper()
	if !slices.Equal(got, want) {
		t.Errorf("%s: %v, want %v", what, got, want)
	}
}

// dice gives numbers that look as if thrown, the same ones in each run.
type dice uint64

func (d *dice) below(n int) int {
	*d = *d*6364136223846793005 + 1442695040888963407
	return int(uint64(*d)>>33) % n
}
