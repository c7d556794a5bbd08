package whole

import (
	"bytes"
	"fmt"
	"testing"

	"spindle/api"
	"spindle/engine"
)

// run runs the first lines of a script, and some more.
func run(t *testing.T, s api.Script, lines int, more ...api.ScriptLine) api.Report {
	t.Helper()
	s.Lines = append(append([]api.ScriptLine{}, s.Lines[:lines]...), more...)
	r, e := engine.Run(s)
	if e != api.OK {
		t.Fatalf("Run: error %d", e)
	}
	return r
}

// W1 to W7, W11: long scripts without faults, and with them; behind each of their lines the machine falls, in several ways.
func TestCrashesAtEachStep(t *testing.T) {
	const scripts = 12
	var mets [2 * scripts]map[string]int
	t.Run("scripts", func(t *testing.T) {
		for seed := range mets {
			mets[seed] = map[string]int{}
			t.Run(fmt.Sprint(seed), func(t *testing.T) {
				t.Parallel()
				tried(t, throwScript(seed, seed >= scripts), mets[seed])
			})
		}
	})
	sum := map[string]int{}
	for _, met := range mets {
		for what, n := range met {
			sum[what] += n
		}
	}
	for what, least := range map[string]int{"answered": 150, "taken back": 500, "clear": 10, "looked ahead of the crash": 500, "looked behind the crash": 2000, "refused": 3, "command 1 of export 0, code 0": 15, "command 1 of export 0, code 5": 2, "command 4 of export 0, code 0": 3, "command 6 of export 1, code 0": 3, "command 3 of export 1, code 0": 3, "command 1 of export 2, code 0": 3, "command 0 of export 3, code 0": 1} {
		if sum[what] < least {
			t.Errorf("%s: %d times", what, sum[what])
		}
	}
	if testing.Verbose() {
		t.Log(sum)
	}
}

// tried follows a script, and lets the machine fall behind each line.
func tried(t *testing.T, r *thrower, met map[string]int) {
	whole := run(t, r.s, len(r.s.Lines))
	y := newStory(t, met)
	for k, l := range r.s.Lines {
		y.what = fmt.Sprintf("line %d (kind %d, step %d)", k, l.Kind, l.Step.Kind)
		var now [][]byte
		if k >= r.from {
			now = run(t, r.s, k+1).Exports
		}
		if k >= r.from && l.Kind == api.LineMove {
			now = nil // of a line of many tasks only the end is seen, below
		}
		y.follow(l, whole.Heard[k], now)
		if k >= r.from && y.up {
			y.falls(r, k+1, changes(l))
		}
	}
	for i, b := range whole.Exports {
		if !bytes.Equal(b, y.v[i]) {
			t.Errorf("export %d has other bytes than the array at the end", i)
		}
	}
	if !r.faults {
		if len(y.dues) > 0 || len(y.tasks) > 0 {
			t.Errorf("%d answers did not leave, %d tasks were not done (W6)", len(y.dues), len(y.tasks))
		}
		for conn, n := range y.asked {
			if n != 0 {
				t.Errorf("connection %d: %d requests were not answered (W6)", conn, n)
			}
		}
	}
}

// changes tells whether a line may have changed what stands in the cache or on the disk.
func changes(l api.ScriptLine) bool {
	switch {
	case l.Kind == api.LineStep:
		return l.Step.Kind != api.STake && l.Step.Kind != api.SFeed && l.Step.Kind != api.SSend
	}
	return l.Kind == api.LineMove
}

// falls lets the machine fall behind the first lines of a script: whatever is kept, all is as it may be. Where the last one has changed nothing but a connection once will do.
func (y *story) falls(r *thrower, lines int, changes bool) {
	y.looked(run(y.t, r.s, lines, crash(r.keep())...), lines, nil)
	if !changes {
		return
	}
	for _, keep := range [][]bool{nil, everything()} {
		y.looked(run(y.t, r.s, lines, crash(keep)...), lines, nil)
	}
	var ask []api.ScriptLine
	for i := range watched {
		ask = append(ask, look(watchers+i, watched[i])...)
	}
	y.looked(run(y.t, r.s, lines, append(append([]api.ScriptLine{}, ask...), crash(pick(&r.dice, nil, r.keep()))...)...), lines, ask)
}

func everything() []bool {
	out := make([]bool, 1000)
	for i := range out {
		out[i] = true
	}
	return out
}

// crash are the lines by which the machine falls, starts, and is looked at.
func crash(keep []bool) []api.ScriptLine {
	out := []api.ScriptLine{stepOf(api.Step{Kind: api.SCrash, Keep: keep}), stepOf(api.Step{Kind: api.SStart})}
	for i, export := range watched {
		out = append(out, joins(lateWatchers+i, export, api.AskExtended)...)
		out = append(out, look(lateWatchers+i, export)...)
	}
	return out
}

// look are the lines by which a watcher asks how all of its export is.
func look(who, export int) []api.ScriptLine {
	return []api.ScriptLine{
		askOf(who, api.Ask{Kind: api.AskRequest, Req: api.Request{Type: api.CmdStatus, Length: uint64(size(export))}}),
		moveOf(who),
	}
}

// A state is what a status tells of each byte.
type state struct{ hole, unsaved, dirty []bool }

// statuses reads what watchers have heard, one behind the other; one that has heard an error knows nothing.
func statuses(t *testing.T, heard []api.Heard, export []int) []state {
	t.Helper()
	var out []state
	for _, h := range heard {
		for _, v := range h.Events {
			if v.Kind == api.EvDone {
				out = append(out, stateOf(t, v, size(export[len(out)])))
			}
		}
	}
	return out
}

func stateOf(t *testing.T, v api.Event, size int) state {
	t.Helper()
	x := state{}
	for _, c := range v.Status {
		var list []bool
		for _, r := range c.Runs {
			for range r.Len {
				list = append(list, r.Flags != 0)
			}
		}
		if len(list) != size {
			t.Fatalf("a status of %d bytes, want %d", len(list), size)
		}
		switch c.Context {
		case api.ContextBase:
			x.hole = list
		case api.ContextUnsaved:
			x.unsaved = list
		case api.ContextDirty:
			x.dirty = list
		}
	}
	return x
}

// looked holds what is there behind a crash against what may be (W2), and what statuses told ahead of it and behind it (W11).
func (y *story) looked(r api.Report, lines int, ask []api.ScriptLine) {
	y.t.Helper()
	if !r.Up {
		y.t.Fatalf("%s: the server does not start (W2)", y.what)
	}
	y.mayBe(r.Exports)
	ahead := statuses(y.t, r.Heard[lines:lines+len(ask)], watched[:])
	for i, x := range ahead {
		y.holds("ahead of the crash", watched[i], x, y.v)
		for at := range x.unsaved {
			if !x.unsaved[at] && r.Exports[watched[i]][at] != y.v[watched[i]][at] {
				y.t.Fatalf("%s: byte %d of export %d was not unsaved, and is another behind a crash (W11)", y.what, at, watched[i])
			}
		}
	}
	behind := statuses(y.t, r.Heard[lines+len(ask):], watched[:])
	if len(behind) != len(watched) {
		y.t.Fatalf("%s: %d statuses behind a crash", y.what, len(behind))
	}
	for i, x := range behind {
		y.holds("behind the crash", watched[i], x, r.Exports)
		if x.hole == nil || x.unsaved == nil || (x.dirty == nil) != (watched[i] != tracked) {
			y.t.Fatalf("%s: a status without a context", y.what)
		}
		for at := range x.unsaved {
			if x.unsaved[at] {
				y.t.Fatalf("%s: byte %d is unsaved at once behind a crash", y.what, at)
			}
		}
	}
}

// holds looks whether what a status tells of bytes is true (W11).
func (y *story) holds(when string, export int, x state, v [][]byte) {
	y.t.Helper()
	for at, hole := range x.hole {
		if hole && v[export][at] != 0 {
			y.t.Fatalf("%s: %s byte %d of export %d is told to be a hole, and is not 0 (W11)", y.what, when, at, export)
		}
	}
	for at, dirty := range x.dirty {
		if !dirty && v[export][at] != y.base[at] {
			y.t.Fatalf("%s: %s byte %d is not told to be dirty, and is another than when the marks were cleared (W11)", y.what, when, at)
		}
	}
	if x.hole != nil {
		y.met["looked "+when]++
	}
}
