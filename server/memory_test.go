package server_test

import (
	"bytes"
	"runtime"
	"slices"
	"testing"

	"spindle/api"
)

// R4: the image that is handed in is not changed, with the room behind it, and not kept.
func TestImageMemory(t *testing.T) {
	handed := roomy(filled(t), 0xaa)
	before := bytes.Clone(whole(handed))
	s := started(t, handed, config(3, 2, 2))
	c := begun(t, s, form{}, "a")
	well(t, s, c, write(0, many(1000), api.FlagFua))
	wantBytes(t, "the image", whole(handed), before)
	spoil(handed, 0xee)
	wanted := append(many(1000), shapes()[0].bytes()[1000:]...)
	wantBytes(t, "Peek", peeked(t, s, 0), wanted)
	mustStep(t, s, falls())
	mustStep(t, s, rises())
	wantBytes(t, "Peek behind a crash", peeked(t, s, 0), wanted)
	for _, x := range shapes()[1:] {
		wantBytes(t, "the others", peeked(t, s, x.at), x.bytes())
	}
}

// R4: the bytes that a step brings are not changed and not kept, neither while they wait nor when they are a task's nor when they are written.
func TestDataMemory(t *testing.T) {
	s := started(t, filled(t), config(3, 2, 2))
	c := begun(t, s, form{}, "a")
	handed := roomy(requestBytes(write(512, many(700)), false), 0xaa)
	before := bytes.Clone(whole(handed))
	mustStep(t, s, feeds(c, handed))
	wantBytes(t, "the data", whole(handed), before)
	spoil(handed, 0xee)
	took := mustStep(t, s, takes(c)).Took
	wantBytes(t, "what was taken", took.Task.Req.Data, many(700))
	spoil(took.Task.Req.Data, 0xed)
	mustStep(t, s, runs(c, 0))
	spoil(handed, 0xec)
	spoil(took.Task.Req.Data, 0xeb)
	wantBytes(t, "what was written", peeked(t, s, 0)[512:1212], many(700))
}

// R4: what a crash is to keep is not changed.
func TestKeepMemory(t *testing.T) {
	s := started(t, filled(t), config(3, 2, 2))
	c := begun(t, s, form{}, "a")
	well(t, s, c, write(512, many(1536)))
	mustStep(t, s, writes())
	keep := roomy([]bool{false, true}, true)
	before := slices.Clone(whole(keep))
	mustStep(t, s, falls(keep...))
	mustStep(t, s, api.Step{Kind: api.SStart, Keep: keep})
	mustStep(t, s, api.Step{Kind: api.SCrash, Keep: keep})
	wantSame(t, "what is kept", whole(keep), before)
}

// R4: what steps say is nobody else's: bytes that left are written over, and what leaves later is right; what leaves later comes not there.
func TestOutMemory(t *testing.T) {
	s := started(t, filled(t), config(3, 4, 2))
	var outs, kept [][]byte
	hears := func(b []byte) {
		outs, kept = append(outs, b), append(kept, bytes.Clone(b))
	}
	for range 3 {
		hears(mustStep(t, s, opens()).Out)
	}
	for c := range 3 {
		mustStep(t, s, feeds(c, lay(flagBytes(3), option(api.OptList), goTo("a"))))
		for range 3 {
			hears(mustStep(t, s, takes(c)).Out)
		}
		mustStep(t, s, feeds(c, requestBytes(read(512, 1000), false)))
		mustStep(t, s, takes(c))
		mustStep(t, s, runs(c, 0))
		hears(mustStep(t, s, sends(c, 0)).Out)
	}
	for i, b := range outs {
		wantBytes(t, "what left earlier", b, kept[i])
	}
	for _, b := range outs {
		spoil(b, 0xee)
		_ = append(b, many(50)...)
	}
	wantBytes(t, "another greeting", mustStep(t, s, opens()).Out, greeting())
	wantBytes(t, "another read", well(t, s, 0, read(512, 1000)).data, shapes()[0].bytes()[512:1512])
}

// R4: what Label, Look, Peek, Image and Queue tell is new memory each time: written over, with the room behind it, it changes nothing.
func TestTellingMemory(t *testing.T) {
	s := crowd(t)
	well(t, s, begun(t, s, forms()[4], "t"), write(0, many(3000)))
	asked(t, s, 0, read(512, 10))
	mustStep(t, s, runs(0, 1))
	mustStep(t, s, writes())
	before := stateOf(s)
	want(t, "something waits", len(before.queue) > 0 && len(before.look.Lines) > 2, true)
	for range 2 {
		now := stateOf(s)
		spoil(now.label.Exports, api.Export{Name: "spoilt", Sectors: 1})
		spoilLook(now.look)
		for _, b := range now.peeks {
			spoil(b, 0xee)
		}
		spoil(now.image, 0xed)
		for _, put := range now.queue {
			spoil(put.Data, 0xec)
		}
		spoil(now.queue, api.Put{Sector: 99})
		wantState(t, "written over", s, before)
	}
	mustStep(t, s, shuts(2))
	c := mustStep(t, s, opens()).Conn
	mustStep(t, s, feeds(c, lay(flagBytes(3), goTo("p"))))
	mustStep(t, s, takes(c))
	want(t, "the exports are what they were", mustStep(t, s, takes(c)).Took.Kind, api.TookOption)
	mustStep(t, s, falls(true, true, true, true))
	mustStep(t, s, rises())
	wantSame(t, "the label", s.Label(), api.Label{Exports: several()})
}

// R5: all goroutines have ended when a crash's step answers. On one processor those that nobody waits for have not even begun then; the last that was waited for may be on its way out.
func TestNoGoroutineIsLeft(t *testing.T) {
	defer runtime.GOMAXPROCS(runtime.GOMAXPROCS(1))
	s := started(t, filled(t), config(3, api.MaxConns, 2))
	before := runtime.NumGoroutine()
	for range 50 {
		for range api.MaxConns {
			mustStep(t, s, opens())
		}
		mustStep(t, s, falls())
		if now := runtime.NumGoroutine(); now > before+1 {
			t.Fatalf("%d goroutines, %d ahead of the crash", now, before)
		}
		mustStep(t, s, rises())
	}
}
