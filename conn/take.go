package conn

import (
	"spindle/api"
	"spindle/rule"
	"spindle/wire"
)

// takeMessage cuts what the phase awaits, and leads it to what it comes to (P14.3).
func (x *connection) takeMessage() api.Took {
	switch {
	case x.phase == api.PhaseFlags:
		flags, cut := x.Flags()
		return lead(x, flags, cut, x.greeted)
	case x.phase == api.PhaseOptions:
		option, cut := x.Option(x.limits.Option)
		return lead(x, option, cut, x.asked)
	case x.phase == api.PhaseWork && !x.Full():
		request, cut := x.Request(x.limits.Payload, x.talk.Session().Extended)
		return lead(x, request, cut, x.requested)
	}
	return api.Took{}
}

// lead hands a message that was cut to what it leads to; bytes that are none end the connection.
func lead[M any](x *connection, m M, cut api.Cut, to func(M) api.Took) api.Took {
	switch cut {
	case api.CutDone:
		return to(m)
	case api.CutBad, api.CutLong:
		x.end()
		return api.Took{Kind: api.TookEnd}
	}
	return api.Took{}
}

// greeted is what a client's flags lead to.
func (x *connection) greeted(flags uint32) api.Took {
	if x.talk.Flags(flags) != api.OK {
		x.end()
		return api.Took{Kind: api.TookEnd}
	}
	x.phase = api.PhaseOptions
	return api.Took{Kind: api.TookFlags}
}

// asked is what an option leads to.
func (x *connection) asked(o api.Option) api.Took {
	replies, step, _ := x.talk.Option(o) // a talk refuses none, as long as options are awaited
	for _, r := range replies {
		x.say(wire.EncodeReply(r))
	}
	switch step.Kind {
	case api.NegoStart:
		x.start(step)
	case api.NegoEnd:
		x.end()
		return api.Took{Kind: api.TookEnd, Code: o.Code}
	}
	return api.Took{Kind: api.TookOption, Code: o.Code}
}

// start begins the transmission. EXPORT_NAME has no reply of the options' kind: the export itself is its answer.
func (x *connection) start(step api.NegoStep) {
	if step.Old {
		x.say(wire.EncodeExport(step.Export, step.Zeroes))
	}
	x.phase = api.PhaseWork
}

// requested is what a request leads to.
func (x *connection) requested(q api.Request) api.Took {
	if q.Type == api.CmdDisc {
		x.drain()
		return api.Took{Kind: api.TookEnd}
	}
	id, _ := x.Add(q) // there is room: of a full table nothing is cut
	x.next = id + 1
	task := api.Task{ID: id, Req: q}
	return api.Took{Kind: api.TookRequest, Task: task, Refused: x.refused(task)}
}

// refused tells whether the rules refuse a task, which is ready then.
func (x *connection) refused(task api.Task) bool {
	s := x.talk.Session()
	code := rule.Check(x.exports[s.Index], s, x.limits, task.Req)
	if code == 0 {
		return false
	}
	x.finish(task, api.Outcome{Code: code}) // an error without a place fits every request
	return true
}
