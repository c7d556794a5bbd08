package flight_test

import (
	"bytes"
	"fmt"
	"iter"
	"testing"

	"spindle/api"
)

// R4: a request's Data is not changed, the room behind it neither, and not kept.
func TestAddMemory(t *testing.T) {
	x := fresh(t, 3)
	shared := roomy(request(1).Data)
	for id := 1; id <= 3; id++ {
		copy(shared, request(id).Data)
		q := request(id)
		q.Data = shared
		before := bytes.Clone(whole(shared))
		wantAdd(t, "Add", x, q, id, api.OK)
		wantBytes(t, "what was handed to Add", whole(shared), before)
		spoil(shared, 0xee)
		wantHolds(t, "written over behind Add", x, 3, rows(pending, 1, id)...)
	}
	q := request(0)
	q.Data = shared
	before := bytes.Clone(whole(shared))
	wantAdd(t, "full", x, q, 0, api.ErrFull)
	done(t, x, 1, 2, 3)
	x.Take(1)
	x.Clear()
	wantBytes(t, "what was handed in, behind all calls", whole(shared), before)
}

// R4: likewise an answer's bytes, of Dones that are refused too.
func TestDoneMemory(t *testing.T) {
	x := filled(t, 3, 3)
	shared := roomy(answerTo(1))
	for id := 1; id <= 3; id++ {
		copy(shared, answerTo(id))
		before := bytes.Clone(whole(shared))
		want(t, "Done", x.Done(id, shared), api.OK)
		wantBytes(t, "what was handed to Done", whole(shared), before)
		want(t, "Done again", x.Done(id, shared), api.ErrState)
		want(t, "Done of none", x.Done(id+3, shared), api.ErrEntry)
		wantBytes(t, "what was handed to Done", whole(shared), before)
		spoil(shared, 0xee)
		wantGet(t, "written over behind Done", x, id, ready(id), api.OK)
	}
	wantHolds(t, "written over", x, 3, rows(ready, 1, 3)...)
	for id := 1; id <= 3; id++ {
		spoil(shared, byte(id))
		wantTake(t, x, id, answerTo(id), api.OK)
	}
}

// R4: the same memory as request and as answer, written over between the calls.
func TestOneMemoryForAll(t *testing.T) {
	x := fresh(t, 2)
	room := make([]byte, 0, 100)
	for id := 1; id <= 2; id++ {
		room = append(room[:0], request(id).Data...)
		q := request(id)
		q.Data = room
		x.Add(q)
		room = append(room[:0], answerTo(id)...)
		x.Done(id, room)
		spoil(room, 0xee)
		wantGet(t, "one memory", x, id, ready(id), api.OK)
	}
	wantHolds(t, "one memory", x, 2, ready(1), ready(2))
}

// R4: what Get answers is nobody else's.
func TestGetMemory(t *testing.T) {
	x, entries := mixed(t)
	for _, entry := range entries {
		first, _ := x.Get(entry.ID)
		second, _ := x.Get(entry.ID)
		spoil(first.Req.Data, 0xee)
		want(t, "one list of an answer and the other", bytes.Equal(first.Answer, entry.Answer), true)
		spoil(first.Answer, 0xdd)
		want(t, "another answer", same(second, entry), true)
		wantHolds(t, "what was answered is written over", x, 6, entries...)
	}
}

// R4: what is appended to an answer comes into no other list.
func TestAppendMemory(t *testing.T) {
	x, entries := mixed(t)
	got, _ := x.Get(3)
	_ = append(got.Req.Data, "appended appended appended"...)
	wantBytes(t, "the answer", got.Answer, answerTo(3))
	_ = append(got.Answer, "appended appended appended"...)
	wantBytes(t, "the request's data", got.Req.Data, request(3).Data)
	numbers := x.Pending()
	_ = append(numbers, 99)
	wantHolds(t, "appended to", x, 6, entries...)
}

// R4: an empty answer, and what is appended to it.
func TestEmptyMemory(t *testing.T) {
	room := []byte("room")
	x := fresh(t, 2)
	q := request(1)
	q.Data = room[:0]
	x.Add(q)
	x.Done(1, room[:0])
	got, _ := x.Get(1)
	_ = append(got.Req.Data, "aaaa"...)
	_ = append(got.Answer, "bbbb"...)
	taken, e := x.Take(1)
	want(t, "Take", e, api.OK)
	_ = append(taken, "cccc"...)
	wantBytes(t, "the room", room, []byte("room"))
}

// R4: the numbers that are answered are nobody else's.
func TestNumbersMemory(t *testing.T) {
	x, entries := mixed(t)
	for _, tell := range []func() []int{x.Pending, x.Ready} {
		first, second := tell(), tell()
		before := fmt.Sprint(second)
		spoil(first, 99)
		want(t, "another answer", fmt.Sprint(second), before)
		spoil(second, 98)
		wantHolds(t, "written over", x, 6, entries...)
	}
}

// R4: what Take answers is the caller's, and what others were answered of that entry is not changed by it.
func TestTakeMemory(t *testing.T) {
	x := filled(t, 2, 2)
	done(t, x, 1, 2)
	told, _ := x.Get(1)
	first, _ := x.Take(1)
	spoil(told.Answer, 0xdd)
	wantBytes(t, "what was taken", first, answerTo(1))
	add(t, x, 3, 3)
	done(t, x, 3)
	spoil(first, 0xee)
	wantHolds(t, "what was taken is written over", x, 2, ready(2), ready(3))
	second, _ := x.Take(2)
	third, _ := x.Take(3)
	spoil(second, 0xcc)
	wantBytes(t, "another one that was taken", third, answerTo(3))
}

// R4, R6: what a ranging tells is nobody else's, and no other one sees what is written there.
func TestAllMemory(t *testing.T) {
	x, entries := mixed(t)
	all := x.All()
	i := 0
	for entry := range all {
		for other := range all {
			spoil(other.Req.Data, 0xcc)
			spoil(other.Answer, 0xcc)
		}
		want(t, "while another ranging is written over", same(entry, entries[i]), true)
		spoil(entry.Req.Data, 0xee)
		want(t, "one list of an entry and the other", bytes.Equal(entry.Answer, entries[i].Answer), true)
		spoil(entry.Answer, 0xdd)
		i++
	}
	wantHolds(t, "written over", x, 6, entries...)
}

// R4, R6: what is taken in a ranging and written over, the ranging tells as it was when it began.
func TestTakenInARanging(t *testing.T) {
	x := filled(t, 3, 3)
	done(t, x, 1, 2, 3)
	next, stop := iter.Pull(x.All())
	defer stop()
	first, _ := next()
	want(t, "the first", same(first, ready(1)), true)
	for id := 1; id <= 3; id++ {
		got, e := x.Take(id)
		want(t, "Take", e, api.OK)
		spoil(got, 0xee)
	}
	for id := 2; id <= 3; id++ {
		entry, _ := next()
		want(t, "taken and written over", same(entry, ready(id)), true)
	}
}

// R4: what was answered stays as it is while the table goes on.
func TestAnswersStay(t *testing.T) {
	x := fresh(t, 1)
	var got []api.Entry
	var taken [][]byte
	for id := 1; id <= 300; id++ {
		add(t, x, id, id)
		done(t, x, id)
		entry, _ := x.Get(id)
		got = append(got, entry)
		answer, _ := x.Take(id)
		taken = append(taken, answer)
	}
	wantEntries(t, "what Get answered", got, rows(ready, 1, 300)...)
	for i, answer := range taken {
		wantBytes(t, "what Take answered", answer, answerTo(i+1))
	}
}
