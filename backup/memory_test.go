package backup_test

import (
	"bytes"
	"slices"
	"testing"

	"spindle/api"
	"spindle/backup"
)

// roomy gives a copy of a list with spare room behind it that is not zero; of none, too.
func roomy[T any](list []T, spare T) []T {
	room := append(make([]T, 0, len(list)+3), list...)
	return append(room, spare, spare, spare)[:len(list)]
}

// roomed is a list with the spare room behind it.
func roomed[T any](list []T) []T { return list[:cap(list)] }

// spoil writes a list over, with the spare room behind it.
func spoil[T any](list []T, with T) {
	for i := range roomed(list) {
		roomed(list)[i] = with
	}
}

func spare() run        { return data(3, "spare") }
func spoilt() run       { return run{Off: 77, Len: 78, Hole: true, Data: []byte("spoilt")} }
func spareOne() archive { return full(9, data(0, "spare")) }

// own lays an archive into memory of its own, with room behind each of its lists. Of a hole there is an empty list then where there may have been nil, which is the same.
func own(a archive) archive {
	a.Runs = roomy(a.Runs, spare())
	for n := range a.Runs {
		a.Runs[n].Data = roomy(a.Runs[n].Data, 0xa5)
	}
	return a
}

// wantOwn looks that what own gave is as it was, spare room included (R4).
func wantOwn(t *testing.T, what string, in, a archive) {
	t.Helper()
	wanted := own(a)
	wanted.Runs = roomed(wanted.Runs)
	got := in
	got.Runs = roomed(in.Runs)
	wantArchive(t, what+": what was handed in, behind the call", got, wanted)
	for n, r := range in.Runs {
		wantBytes(t, what+": the room behind Data that were handed in", roomed(r.Data), roomed(wanted.Runs[n].Data))
	}
}

// spoilArchive writes an archive over, each list with another value.
func spoilArchive(a archive) {
	for n, r := range a.Runs {
		spoil(r.Data, byte(n+1))
	}
	spoil(a.Runs, spoilt())
}

// handed lays archives into memory of their own, and looks behind a call that all of it is as it was (R4); then it is written over.
func handed(t *testing.T, what string, call func(in []archive), list ...archive) {
	t.Helper()
	var in []archive
	for _, a := range list {
		in = append(in, own(a))
	}
	in = roomy(in, spareOne())
	call(in)
	for n, a := range list {
		wantOwn(t, what, in[n], a)
		spoilArchive(in[n])
	}
	for _, a := range roomed(in)[len(list):] {
		wantArchive(t, what+": the room behind the list that was handed in", a, spareOne())
	}
	spoil(in, archive{ID: 71, Parent: 72, Size: 73})
}

// laidIn lays a list into memory of its own for a call, as handed does.
func laidIn[T comparable](t *testing.T, what string, spare T, call func(in []T), list []T) {
	t.Helper()
	in := roomy(list, spare)
	call(in)
	if !slices.Equal(roomed(in), roomed(roomy(list, spare))) {
		t.Errorf("%s: a list that was handed in was changed", what)
	}
	spoil(in, spare)
}

// archiveOf calls what answers an archive, twice; the first answer is written over ahead of the second call. What is answered is held against R2, R4 and R5.
func archiveOf(t *testing.T, what string, call func() (archive, api.Errno)) (archive, api.Errno) {
	t.Helper()
	first, e := call()
	copied := cloned(first)
	parts := slices.Clone(first.Runs)
	spoilArchive(first)
	second, again := call()
	if e != again || !same(second, copied) {
		t.Errorf("%s again, all memory written over: %s, error %d, want %s, error %d", what, shown(second), again, shown(copied), e)
	}
	for n, r := range parts {
		if slices.ContainsFunc(roomed(r.Data), func(v byte) bool { return v != byte(n+1) }) {
			t.Errorf("%s: Data of the run %d share memory with others", what, n)
		}
	}
	for _, r := range roomed(first.Runs) {
		if !sameRun(r, spoilt()) {
			t.Errorf("%s: the runs that it answered were changed behind its answer", what)
		}
	}
	if e != api.OK && !same(copied, archive{}) {
		t.Errorf("%s: %s beside error %d", what, shown(copied), e)
	}
	return copied, e
}

// listOf calls what answers a list, as archiveOf does.
func listOf[T comparable](t *testing.T, what string, with T, call func() ([]T, api.Errno)) ([]T, api.Errno) {
	t.Helper()
	first, e := call()
	copied := slices.Clone(first)
	spoil(first, with)
	second, again := call()
	if e != again || !slices.Equal(second, copied) {
		t.Errorf("%s again, all memory written over: %v, error %d, want %v, error %d", what, second, again, copied, e)
	}
	if slices.ContainsFunc(roomed(first), func(v T) bool { return v != with }) {
		t.Errorf("%s: what it answered was changed behind its answer", what)
	}
	if e != api.OK && len(copied) > 0 {
		t.Errorf("%s: %v beside error %d", what, copied, e)
	}
	return copied, e
}

func checkOf(t *testing.T, a archive) (e api.Errno) {
	t.Helper()
	handed(t, "Check", func(in []archive) {
		e = backup.Check(in[0])
		wantErr(t, "Check again", backup.Check(in[0]), e)
	}, a)
	return e
}

func makeOf(t *testing.T, id, parent uint64, b []byte, l []extent) (out archive, e api.Errno) {
	t.Helper()
	laidIn(t, "Make", 0xa5, func(b []byte) {
		laidIn(t, "Make", extent{Off: 7, Len: 7, Hole: true, Dirty: true}, func(l []extent) {
			out, e = archiveOf(t, "Make", func() (archive, api.Errno) { return backup.Make(id, parent, b, l) })
		}, l)
	}, b)
	return out, e
}

func encodeOf(t *testing.T, a archive) (out []byte, e api.Errno) {
	t.Helper()
	handed(t, "Encode", func(in []archive) {
		out, e = listOf(t, "Encode", 0xc3, func() ([]byte, api.Errno) { return backup.Encode(in[0]) })
	}, a)
	return out, e
}

func decodeOf(t *testing.T, b []byte) (out archive, e api.Errno) {
	t.Helper()
	laidIn(t, "Decode", 0xa5, func(in []byte) {
		out, e = archiveOf(t, "Decode", func() (archive, api.Errno) { return backup.Decode(in) })
	}, b)
	return out, e
}

func restoreOf(t *testing.T, chain []archive) (out []byte, at int, e api.Errno) {
	t.Helper()
	handed(t, "Restore", func(in []archive) {
		out, e = listOf(t, "Restore", 0xc3, func() ([]byte, api.Errno) {
			b, place, e := backup.Restore(in)
			at = place
			return b, e
		})
	}, chain...)
	return out, at, e
}

func joinOf(t *testing.T, a, b archive) (out archive, e api.Errno) {
	t.Helper()
	handed(t, "Join", func(in []archive) {
		out, e = archiveOf(t, "Join", func() (archive, api.Errno) { return backup.Join(in[0], in[1]) })
	}, a, b)
	return out, e
}

func changedOf(t *testing.T, a archive) (out ranges) {
	t.Helper()
	handed(t, "Changed", func(in []archive) {
		out, _ = listOf(t, "Changed", api.Range{Lo: -7, Hi: -7}, func() (ranges, api.Errno) { return backup.Changed(in[0]), api.OK })
	}, a)
	return out
}

// R4: what was answered stays as it is when what was handed in is written over, and nothing of it is seen in what is answered later.
func TestAnswersAreOwn(t *testing.T) {
	b := []byte("abcd\x00\x00ef")
	l := row(laidOut(2), laidOut(2), empty(2), laidOut(2))
	one, _ := backup.Make(1, 0, b, l)
	wanted := full(1, data(0, "abcd"), hole(4, 2), data(6, "ef"))
	spoil(b, 'x')
	spoil(l, extent{Off: 9})
	wantArchive(t, "Make's answer", one, wanted)

	two := since(2, 1, 8, data(3, "QRS"))
	joined, _ := backup.Join(one, two)
	device, _, _ := backup.Restore([]archive{one, two})
	laid, _ := backup.Encode(two)
	read, _ := backup.Decode(laid)
	spoilArchive(one)
	spoilArchive(two)
	spoil(laid, 9)
	wantArchive(t, "Join's answer", joined, full(2, data(0, "abcQRSef")))
	wantBytes(t, "Restore's answer", device, []byte("abcQRSef"))
	wantArchive(t, "Decode's answer", read, since(2, 1, 8, data(3, "QRS")))
	spoilArchive(joined)
	spoil(device, 8)
	wantArchive(t, "Decode's answer, others written over", read, since(2, 1, 8, data(3, "QRS")))
}

// R4: the same memory in an argument twice is no matter, and both archives of a Join or all of a chain may share it.
func TestArgumentsThatShareMemory(t *testing.T) {
	b := []byte("abcdabcd")
	one := archive{ID: 1, Size: 8, Runs: []run{{Len: 8, Data: b}}}
	two := archive{ID: 2, Parent: 1, Size: 8, Runs: []run{{Off: 1, Len: 3, Data: b[:3]}, {Off: 5, Len: 3, Data: b[1:4]}}}
	wantAll := func(what string) {
		t.Helper()
		joined, e := backup.Join(one, two)
		wantErr(t, what+": Join", e, api.OK)
		wantArchive(t, what+": Join", joined, full(2, data(0, "aabcabcd")))
		device, _, e := backup.Restore([]archive{one, two})
		wantErr(t, what+": Restore", e, api.OK)
		wantBytes(t, what+": Restore", device, []byte("aabcabcd"))
		spoilArchive(joined)
		spoil(device, 3)
	}
	for range 2 {
		wantAll("shared memory")
	}
	want(t, "the memory", bytes.Equal(b, []byte("abcdabcd")), true)
}
