package mirror_test

import (
	"bytes"
	"fmt"
	"slices"
	"testing"

	"spindle/api"
	"spindle/mirror"
)

// R4: what Write is handed is the mirror's own from then on, also while it waits; the room behind it is not touched.
func TestWrittenBytes(t *testing.T) {
	d := opened(t, "written", 2)
	m := d.m
	d.say(0)
	room := make([]byte, 0, 64)
	for n := range 3 {
		room = append(room[:0], byte('a'+n), byte('p'+n))
		spoil(room[2:], 0xaa)
		before := bytes.Clone(whole(room))
		m.Write(uint64(n), room)
		wantBytes(t, "what was handed in", whole(room), before)
	}
	spoil(room, 0xee)
	for n := range 3 {
		for k := range 2 {
			said := m.Say(k)
			wantBytes(t, fmt.Sprint("write ", n), said, writeBytes(uint64(n+1), uint64(n), []byte{byte('a' + n), byte('p' + n)}))
			spoil(said, 0xdd)
		}
		m.Hear(0, well(uint64(n+1)))
		m.Hear(1, well(uint64(n+1)))
	}
}

// R4: what Hear is handed is not kept: all bytes come through one piece of memory that is written over behind each Hear. What was read, or copied, is the mirror's own.
func TestHeardBytes(t *testing.T) {
	for _, size := range []int{1, 5, 16, 100, 5000} {
		d := lacking(t, "heard", 2, 0, 600)
		m := d.m
		room := make([]byte, 0, 6000)
		hear := func(k int, b []byte) {
			for ; len(b) > 0; b = b[min(size, len(b)):] {
				room = append(room[:0], b[:min(size, len(b))]...)
				before := bytes.Clone(whole(room))
				want(t, "Hear", m.Hear(k, room), api.OK)
				wantBytes(t, "what was handed in", whole(room), before)
				spoil(room, 0xee)
			}
		}
		m.Read(0, 600)
		m.Say(0)
		hear(0, well(2, many(600, 3)...))
		m.Join(1)
		hear(1, greetingBytes(3))
		hear(1, startBytes(4096))
		m.Say(1)
		wantBytes(t, "the copying asks", m.Say(0), readBytes(3, 0, 600))
		hear(0, well(3, many(600, 7)...))
		wantBytes(t, "what is copied", m.Say(1), writeBytes(1, 0, many(600, 7)))
		list := m.Done()
		want(t, "how many have ended", len(list), 1)
		wantBytes(t, "what was read", list[0].Data, many(600, 3))
	}
}

// R4: what is answered is new memory: written over and appended to, it comes into nothing that is answered earlier or later, nor do two parts of one answer share any.
func TestAnsweredMemory(t *testing.T) {
	d := opened(t, "answers", 3)
	m := d.m
	d.lost(2)
	d.zero(0, 10)
	d.settle()
	d.lost(1)
	d.zero(20, 10)
	d.settle()
	d.read(0, 2)
	d.read(5, 2)
	m.Say(0)
	m.Hear(0, well(3, 'a', 'b'))
	m.Say(0)
	m.Hear(0, well(4, 'c', 'd'))
	list := m.Done()
	_ = append(list[0].Data, "xyz"...)
	spoil(list[0].Data, 0xcc)
	wantEnded(t, "two of one answer", list[1:], []api.MirrorDone{{ID: 4, Data: []byte("cd")}})
	m.Read(7, 1)
	m.Say(0)
	m.Hear(0, well(5, 'e'))
	_ = append(list, api.MirrorDone{ID: 99})
	wantEnded(t, "a later answer", m.Done(), []api.MirrorDone{{ID: 5, Data: []byte("e")}})

	first, second := m.Look(), m.Look()
	for k := range first.Missed {
		_ = append(first.Missed[k], api.Range{Lo: 77, Hi: 78})
		spoil(first.Missed[k], api.Range{Lo: 1, Hi: 2})
		if k < 2 {
			wantSame(t, "what the next one misses", first.Missed[k+1], second.Missed[k+1])
		}
	}
	spoil(first.Members, 0)
	spoil(first.Missed, nil)
	wantLook(t, "a look that another one spoils", m.Look(), second)
}

// script is a life of a mirror of two members, told as calls; each answers what is to be seen behind it.
func script(m *mirror.Mirror) []func() string {
	see := func(parts ...any) string {
		return fmt.Sprint(append(parts, fmt.Sprintf("%x %x %v %v", m.Say(0), m.Say(1), m.Done(), m.Look()))...)
	}
	number := func(id int, e api.Errno) string { return see(id, e) }
	return []func() string{
		func() string { return see(m.Join(0)) },
		func() string { return see(m.Join(1)) },
		func() string { return see(m.Hear(0, greetingBytes(3))) },
		func() string { return see(m.Hear(1, greetingBytes(1))) },
		func() string { return see(m.Hear(0, startBytes(4096))) },
		func() string { return number(m.Write(5, []byte("abc"))) },
		func() string { return number(m.Zero(100, 2000)) },
		func() string { return see(m.Hear(1, startBytes(8192))) },
		func() string { return see(m.Hear(0, well(1))) },
		func() string { return see(m.Hear(1, well(1))) },
		func() string { return see(m.Hear(0, well(2))) },
		func() string { return see(m.Hear(0, well(3, 'x', 'y', 'z'))) },
		func() string { return number(m.Read(0, 4)) },
		func() string { return see(m.Hear(1, well(2))) },
		func() string { return see(m.Hear(0, simpleBytes(5, 4))) },
		func() string { return see(m.Trust(1)) },
		func() string { return see(m.Lost(1)) },
	}
}

// R5, R9: the same calls are answered alike, however often they are made, and whatever mirrors there are beside.
func TestSideBySide(t *testing.T) {
	var alone []string
	first, _ := mirror.New(aPlan(2))
	for _, call := range script(first) {
		alone = append(alone, call())
	}
	d := dice(3)
	var calls [][]func() string
	var seen [5][]string
	for range seen {
		m, _ := mirror.New(aPlan(2))
		calls = append(calls, script(m))
	}
	for left := len(seen) * len(alone); left > 0; {
		i := d.below(len(seen))
		if n := len(seen[i]); n < len(alone) {
			seen[i] = append(seen[i], calls[i][n]())
			left--
		}
	}
	for i := range seen {
		want(t, fmt.Sprint("mirror ", i, " answers as one that is alone"), slices.Equal(seen[i], alone), true)
	}
}
