package whole

import (
	"bytes"
	"fmt"
	"reflect"
	"testing"

	"spindle/api"
	"spindle/disk"
	"spindle/engine"
	"spindle/label"
	"spindle/server"
)

// W9: a script's text gives the script back, and is played alike each time.
func TestText(t *testing.T) {
	for seed := range 20 {
		s := throwScript(seed, seed%2 == 0).s
		text, e := engine.Print(s)
		if e != api.OK {
			t.Fatalf("script %d: Print: error %d", seed, e)
		}
		back, line, e := engine.Parse(text)
		if e != api.OK {
			t.Fatalf("script %d: Parse: error %d, line %d", seed, e, line)
		}
		if again, _ := engine.Print(back); again != text {
			t.Errorf("script %d: another text", seed)
		}
		want := engine.Tell(s, run(t, s, len(s.Lines)))
		for range 2 {
			if engine.Play(text) != want {
				t.Errorf("script %d: Play tells something else than Tell of what Run gives", seed)
			}
		}
	}
}

// stepsOf are all steps that a script makes, and their answers.
func stepsOf(t *testing.T, s api.Script) ([]api.Step, []api.Answer) {
	t.Helper()
	var steps []api.Step
	var answers []api.Answer
	for _, h := range run(t, s, len(s.Lines)).Heard {
		steps, answers = append(steps, h.Steps...), append(answers, h.Answers...)
	}
	return steps, answers
}

func newServer(t *testing.T, image []byte, c api.Config) *server.Server {
	t.Helper()
	s, e := server.New(image, c)
	if e != api.OK {
		t.Fatalf("New: error %d", e)
	}
	return s
}

// same tells whether two servers have the same disks, and tell the same of their exports and lines.
func same(t *testing.T, what string, a, b *server.Server) {
	t.Helper()
	if !bytes.Equal(a.Image(), b.Image()) || !reflect.DeepEqual(a.Queue(), b.Queue()) || !reflect.DeepEqual(a.Look().Lines, b.Look().Lines) || a.Up() != b.Up() {
		t.Fatalf("%s: two servers stand otherwise (W10)", what)
	}
	for i := range exports {
		x, _ := a.Peek(i)
		y, _ := b.Peek(i)
		if !bytes.Equal(x, y) {
			t.Fatalf("%s: export %d has other bytes (W10)", what, i)
		}
	}
}

// W10: two servers over one image, stepped alike, answer alike, as the script said, and have the same disks; so does one that is new over the disk of another that has started again.
func TestAgain(t *testing.T) {
	late := 0
	for seed := range 40 {
		s := throwScript(seed, seed%2 == 0).s
		image, _ := server.Format(s.Sectors, s.Label)
		one, two := newServer(t, image, s.Config), newServer(t, image, s.Config)
		steps, answers := stepsOf(t, s)
		var third *server.Server // since the last start
		first := 0               // its first connection's number at the others
		for n, x := range steps {
			what := fmt.Sprintf("script %d, step %d", seed, n)
			if x.Kind == api.SStart {
				first = one.Look().Next
				third = newServer(t, one.Image(), s.Config)
			}
			a, b := one.Step(x), two.Step(x)
			if !reflect.DeepEqual(a, b) || fmt.Sprint(a) != fmt.Sprint(answers[n]) {
				t.Fatalf("%s: %v, %v, at first %v (W10)", what, a, b, answers[n])
			}
			same(t, what, one, two)
			if third == nil || x.Kind == api.SStart {
				continue
			}
			shifted := x
			shifted.Conn -= first
			c := third.Step(shifted)
			if x.Kind == api.SOpen && c.Err == api.OK {
				c.Conn += first
			}
			if x.Conn >= first && !reflect.DeepEqual(a, c) {
				t.Fatalf("%s: %v of a server that is new, %v of one that has started again (W10)", what, c, a)
			}
			same(t, what, one, third)
			late++
		}
	}
	if late < 500 {
		t.Errorf("%d steps of servers that are new over a disk that was used", late)
	}
}

// turned is the label of the exports with other texts.
func turned() api.Label {
	out := api.Label{Exports: append([]api.Export{}, exports...)}
	out.Exports[0].Name, out.Exports[1].Desc, out.Exports[3].ReadOnly = "other", "another one", false
	return out
}

// used is a disk whose exports were written to.
func used(t *testing.T) *disk.Disk {
	t.Helper()
	s := throwScript(3, false).s
	r := run(t, s, len(s.Lines))
	image, _ := server.Format(s.Sectors, s.Label)
	m := newServer(t, image, s.Config)
	steps, _ := stepsOf(t, s)
	for _, x := range steps {
		m.Step(x)
	}
	m.Step(api.Step{Kind: api.SClear, N: tracked}) // all is safe
	if b, _ := m.Peek(0); !bytes.Equal(b, r.Exports[0]) {
		t.Fatal("the steps of a script do something else by themselves")
	}
	d, e := disk.Load(m.Image())
	if e != api.OK {
		t.Fatalf("Load: error %d", e)
	}
	return d
}

// W8: a Commit that is broken off by a fault and a crash, at each of its operations: the label is the one from before or the new one, and the exports' bytes are what they were.
func TestCommitBroken(t *testing.T) {
	start := used(t)
	before := newServer(t, start.Image(), api.Config{Lines: 4, Conns: 1, Limits: api.Limits{Payload: 512, Option: 64, Flight: 1}})
	d := dice(9)
	seen := map[string]int{}
	for _, kind := range []int{api.FaultWrite, api.FaultBarrier} {
		for after := range 25 {
			for _, land := range []bool{false, true} {
				for range 4 {
					x := start.Copy()
					x.Fault(api.Fault{Kind: kind, Sector: -1, After: after, Times: 1, Land: land})
					e := label.Commit(x, turned())
					keep := make([]bool, len(x.Queue()))
					for i := range keep {
						keep[i] = d.bool()
					}
					x.Crash(keep)
					seen[committed(t, before, x, e)]++
				}
			}
		}
	}
	if seen["old"] == 0 || seen["new"] == 0 {
		t.Errorf("%v", seen)
	}
}

// committed starts a server over a disk behind a Commit, and tells which label it has.
func committed(t *testing.T, before *server.Server, d *disk.Disk, e api.Errno) string {
	t.Helper()
	s := newServer(t, d.Image(), api.Config{Lines: 4, Conns: 1, Limits: api.Limits{Payload: 512, Option: 64, Flight: 1}})
	for i := range exports {
		x, _ := before.Peek(i)
		if y, _ := s.Peek(i); !bytes.Equal(x, y) {
			t.Errorf("export %d has other bytes behind a Commit", i)
		}
	}
	switch got := s.Label(); {
	case reflect.DeepEqual(got, turned()):
		return "new"
	case e == api.OK:
		t.Errorf("behind a Commit that went well: %v", got)
	case !reflect.DeepEqual(got, before.Label()):
		t.Errorf("a label that is neither the old one nor the new one: %v (W8)", got)
	}
	return "old"
}

// W8: a Format that is broken off: a label from before, the new one, or none.
func TestFormatBroken(t *testing.T) {
	start := used(t)
	old, _, _ := label.Load(start)
	d := dice(11)
	seen := map[string]int{}
	for _, kind := range []int{api.FaultWrite, api.FaultBarrier} {
		for after := range 32 {
			for range 6 {
				x := start.Copy()
				x.Fault(api.Fault{Kind: kind, Sector: -1, After: after, Times: 1, Land: d.bool()})
				e := label.Format(x, turned())
				keep := make([]bool, len(x.Queue()))
				for i := range keep {
					keep[i] = d.bool()
				}
				x.Crash(keep)
				got, _, loaded := label.Load(x)
				switch {
				case e == api.OK && (loaded != api.OK || !reflect.DeepEqual(got, turned())):
					t.Errorf("behind a Format that went well: error %d, %v", loaded, got)
				case loaded == api.ErrNone:
					seen["none"]++
				case loaded == api.OK && reflect.DeepEqual(got, turned()):
					seen["new"]++
				case loaded == api.OK && reflect.DeepEqual(got, old):
					seen["old"]++
				default:
					t.Errorf("error %d, a label that is neither: %v (W8)", loaded, got)
				}
			}
		}
	}
	if len(seen) != 3 {
		t.Errorf("%v", seen)
	}
}
