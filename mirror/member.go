package mirror

import (
	"iter"

	"spindle/api"
	"spindle/client"
	"spindle/extent"
)

// A mark says of a byte of the device whether a member has it.
type mark bool

const (
	has    mark = false
	misses mark = true
)

// A member is one of those that a mirror is over.
type member struct {
	*client.Client // nil of one that is out
	state          api.MemberState
	mail           []byte
	marks          *extent.Map[mark] // of each byte of the device
}

func newMember(size uint64) *member {
	marks, _ := extent.New(int64(size), has) // a plan's Size is one that a map may have
	return &member{state: api.MemberOut, marks: marks}
}

func (x *member) join() { x.Client, x.state = client.New(), api.MemberJoining }

func (x *member) leave() { x.Client, x.mail, x.state = nil, nil, api.MemberOut }

func (x *member) open() bool { return x.state == api.MemberStale || x.state == api.MemberWhole }

// say lets bytes join the mail. There are none beside an error.
func (x *member) say(b []byte, _ api.Errno) { x.mail = append(x.mail, b...) }

// choose answers a greeting, and chooses the export.
func (x *member) choose(flags uint32, name string) {
	x.say(x.Flags(flags & (api.HandFixed | api.HandNoZeroes)))
	x.say(x.Info(true, api.InfoRequest{Name: name, Infos: []uint16{api.InfoBlock}}))
}

// start lets the member be open.
func (x *member) start() {
	x.state = api.MemberWhole
	if _, ok := x.firstMissed(); ok {
		x.state = api.MemberStale
	}
}

// trust takes what the member has for all.
func (x *member) trust() {
	x.mark(0, uint64(x.marks.Size()), has)
	x.state = api.MemberWhole
}

// mark marks n bytes from off on, which lie in the device.
func (x *member) mark(off, n uint64, v mark) { x.marks.Set(int64(off), int64(off+n), v) }

// missed gives the ranges that the member misses, as they rise, to range over.
func (x *member) missed() iter.Seq[api.Range] {
	return func(yield func(api.Range) bool) {
		for run := range x.marks.Runs(0, x.marks.Size()) {
			if run.V == misses && !yield(api.Range{Lo: run.Lo, Hi: run.Hi}) {
				return
			}
		}
	}
}

// firstMissed gives the first of them, if the member misses something.
func (x *member) firstMissed() (api.Range, bool) {
	for r := range x.missed() {
		return r, true
	}
	return api.Range{}, false
}
