package server_test

import (
	"fmt"
	"testing"

	"spindle/api"
)

// scripted are the steps of the short scripts: connection 0 is in the transmission, 1 is the next one.
func scripted() []api.Step {
	return []api.Step{
		opens(), feeds(0, requestBytes(write(510, []byte("xyz")), false)), feeds(0, requestBytes(api.Request{Type: api.CmdDisc}, false)), feeds(0, make([]byte, 28)),
		takes(0), takes(1), runs(0, 0), runs(0, 1), sends(0, 0), shuts(0), writes(), clears(0), rises(), falls(), falls(true, true),
		fails(api.FaultRead, -1, 0), fails(api.FaultBarrier, -1, 0),
	}
}

// beginnings lead connection 0 to some state in the transmission.
func beginnings() map[string]func(x *pair) {
	return map[string]func(x *pair){
		"idle":    func(*pair) {},
		"pending": func(x *pair) { x.ask(0, write(0, many(600))) },
		"busy": func(x *pair) {
			x.ask(0, write(0, many(600), api.FlagFua))
			x.ask(0, read(0, 1024))
			x.step(runs(0, 1))
		},
	}
}

// P15.3 to P15.11: every script of a few steps, over each kind of export, from several beginnings.
func TestEveryShortScript(t *testing.T) {
	list := scripted()
	exports := map[string]api.Export{"volume": export("a", 3), "track": export("a", 3), "private": export("a", 3)}
	for kind, e := range exports {
		e.Tracked, e.Private = kind == "track", kind == "private"
		image := formatted(t, 42+5, []api.Export{e})
		for name, begin := range beginnings() {
			for n := range len(list) * len(list) {
				x := newPair(t, image, config(2, 1, 2))
				x.quiet = true
				x.begin(form{}, "a")
				begin(x)
				x.what = kind + ", " + name
				for _, i := range []int{n % len(list), n / len(list)} {
					x.what += fmt.Sprint(", ", list[i].Kind)
					x.step(list[i])
				}
				x.look()
				for i, last := range list {
					x.what += fmt.Sprint(", ", last.Kind)
					x.step(last)
					if i%5 == 0 {
						x.look()
					}
				}
				x.look()
			}
		}
	}
}
