package copier

import (
	"slices"

	"spindle/api"
	"spindle/client"
)

// The contexts that a source is asked for.
const (
	baseContext  = "base:allocation"
	dirtyContext = "spindle:dirty"
)

// A side is the connection with the source, or with the target.
type side struct {
	peer     *client.Client // nil when the copy is over: a nil one hears nothing
	mail     []byte
	contexts map[string]uint32 // the ids of those that are noted, by their names
	begun    bool
	size     uint64 // of the export, from the moment on at which it has begun
}

// connect begins the side anew.
func (s *side) connect() { *s = side{peer: client.New(), contexts: map[string]uint32{}} }

// say lets bytes join the mail that the client gives. A client that is refused has broken by bytes that came in the same piece: it gives none, and that it has broken is the next thing that is looked at.
func (s *side) say(b []byte, _ api.Errno) { s.mail = append(s.mail, b...) }

func (s *side) told(context string) bool {
	_, ok := s.contexts[context]
	return ok
}

// greeted is what a greeting leads to (P23.3, as all down to started).
func (x *copying) greeted(k int, e api.Event) {
	s := &x.sides[k]
	s.say(s.peer.Flags(e.Flags & (api.HandFixed | api.HandNoZeroes)))
	if k == source {
		s.say(s.peer.Option(api.OptStructured, nil))
	} else {
		x.choose(k)
	}
}

// choose asks GO.
func (x *copying) choose(k int) {
	name := x.plan.Source
	if k == target {
		name = x.plan.Target
	}
	s := &x.sides[k]
	s.say(s.peer.Info(true, api.InfoRequest{Name: name, Infos: []uint16{api.InfoBlock}}))
}

// queries gives the contexts that the plan needs.
func (x *copying) queries() []string {
	if x.plan.Dirty {
		return []string{baseContext, dirtyContext}
	}
	return []string{baseContext}
}

// toldContext notes a context. Others than those that were asked for are never looked up.
func (x *copying) toldContext(k int, e api.Event) {
	if slices.Contains(x.queries(), e.Meta.Name) {
		x.sides[k].contexts[e.Meta.Name] = e.Meta.ID
	}
}

func (x *copying) acknowledged(k int, e api.Event) {
	switch e.Option {
	case api.OptStructured:
		s := &x.sides[k]
		s.say(s.peer.Meta(true, api.MetaRequest{Name: x.plan.Source, Queries: x.queries()}))
	case api.OptSetMeta:
		x.choose(k)
	}
}

func (x *copying) refused(k int, e api.Event) {
	switch e.Option {
	case api.OptStructured:
		x.choose(k)
	case api.OptSetMeta:
		clear(x.sides[k].contexts)
		x.choose(k)
	case api.OptGo:
		x.fail(k, 0, 0)
	}
}

func (x *copying) broken(k int, _ api.Event) { x.fail(k, 0, 0) }

// started is what the beginning of a side's transmission leads to.
func (x *copying) started(k int, e api.Event) {
	s := &x.sides[k]
	s.begun, s.size = true, e.Info.Size
	switch {
	case x.state.Phase == api.CopyBegin:
		x.beginWork()
	case !x.goesOnWith(k):
		x.fail(k, 0, 0)
	default:
		x.askWaiting(k)
	}
}

// beginWork begins the work, if both sides have begun.
func (x *copying) beginWork() {
	from, to := &x.sides[source], &x.sides[target]
	if !from.begun || !to.begun {
		return
	}
	x.state.Size = from.size
	switch {
	case from.size == 0 || !x.tellsEnough():
		x.fail(source, 0, 0)
	case to.size < from.size:
		x.fail(target, 0, 0)
	default:
		x.state.Phase = api.CopyWork
		x.beginChunks()
	}
}

// tellsEnough tells whether the source has told what it must.
func (x *copying) tellsEnough() bool {
	return !x.plan.Dirty || x.sides[source].told(dirtyContext)
}

// goesOnWith tells whether the work can go on with a side that has begun anew.
func (x *copying) goesOnWith(k int) bool {
	if k == target {
		return x.sides[target].size >= x.state.Size
	}
	return x.sides[source].size == x.state.Size && x.tellsEnough()
}
