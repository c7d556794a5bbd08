package server_test

import (
	"fmt"
	"reflect"
	"slices"
	"testing"

	"spindle/api"
	"spindle/server"
)

// R1: a server that no call made, nil or zero: ErrNil, and zeros besides; nothing changes it.
func TestNoServer(t *testing.T) {
	var zero server.Server
	for name, s := range map[string]*server.Server{"nil": nil, "zero": &zero} {
		for _, k := range append(kinds(), noKinds()...) {
			for _, n := range []int{0, -1, 1, 99} {
				x := api.Step{Kind: k, Conn: n, N: n, Data: many(40), Keep: []bool{true}, Fault: api.Fault{Kind: 1, Sector: -1, Times: 1}}
				wantSame(t, fmt.Sprint(name, ": kind ", k), s.Step(x), api.Answer{Err: api.ErrNil})
			}
		}
		want(t, name+": Up", s.Up(), false)
		wantSame(t, name+": Label", s.Label(), api.Label{})
		wantSame(t, name+": Look", s.Look(), api.ServerLook{})
		for _, n := range []int{0, -1, 1, 99} {
			b, e := s.Peek(n)
			want(t, name+": Peek", e, api.ErrNil)
			want(t, name+": Peek", len(b), 0)
		}
		want(t, name+": Image", len(s.Image()), 0)
		want(t, name+": Queue", len(s.Queue()), 0)
	}
	want(t, "the zero one", zero, server.Server{})
}

// R1: whatever numbers a step has, it ends and does not panic.
func TestAnyNumbers(t *testing.T) {
	numbers := []int{-1 << 63, -1<<63 + 1, -1 << 32, -2, -1, 0, 1, 2, 3, 1 << 31, 1 << 32, 1<<63 - 1}
	s := crowd(t)
	for _, k := range append(kinds(), noKinds()...) {
		if k == api.SCrash || k == api.SStart {
			continue
		}
		for _, c := range numbers {
			for _, n := range numbers {
				s.Step(api.Step{Kind: k, Conn: c, N: n, Data: []byte{1}, Fault: api.Fault{Kind: n, Sector: c, After: n, Times: c}})
				s.Peek(n)
			}
		}
	}
	for range 3 {
		s.Step(falls(make([]bool, 5000)...))
		s.Step(rises())
		s.Step(api.Step{Kind: api.SCrash})
		s.Step(rises())
	}
	want(t, "Up", s.Up(), true)
}

// The face is fixed: the methods of a server, and no field of it.
func TestFace(t *testing.T) {
	var names []string
	kind := reflect.TypeOf(&server.Server{})
	for i := range kind.NumMethod() {
		names = append(names, kind.Method(i).Name)
	}
	if faces := []string{"Image", "Label", "Look", "Peek", "Queue", "Step", "Up"}; !slices.Equal(names, faces) {
		t.Errorf("methods %v, want %v", names, faces)
	}
	for i := range kind.Elem().NumField() {
		want(t, "an exported field", kind.Elem().Field(i).IsExported(), false)
	}
}

// R5: the same steps give the same answers, however often they are done.
func TestAgain(t *testing.T) {
	var first string
	for range 12 {
		d := dice(5)
		s := started(t, filled(t), config(3, 4, 3))
		y := newScript(&d, several(), diskSectors)
		all := ""
		for range 300 {
			step := y.next(s.Look())
			a := s.Step(step)
			y.did(step, a)
			all += told(a)
		}
		all += told(s.Look()) + string(s.Image())
		if first == "" {
			first = all
		}
		want(t, "told again", all == first, true)
	}
}
