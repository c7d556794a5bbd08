package nego

import (
	"spindle/api"
	"spindle/wire"
)

// An answer is what comes of an option: the replies, in order, and what follows.
type answer struct {
	replies []api.OptionReply
	step    api.NegoStep
}

// closed ends what an option is told by its one last reply: RepAck, or a refusal, ahead of which nothing is told (P10.13).
func closed(told []api.OptionReply, last uint32) answer {
	replies := append(told, api.OptionReply{Kind: last})
	return answer{replies, api.NegoStep{Kind: api.NegoOn}}
}

func refusal(kind uint32) answer { return closed(nil, kind) }

func ending() answer { return answer{step: api.NegoStep{Kind: api.NegoEnd}} }

// A deed is what an option does to a talk.
type deed func(t *Talk, o api.Option) answer

// deeds are all deeds by the options' codes.
func deeds() map[uint32]deed {
	return map[uint32]deed{
		api.OptExportName: (*Talk).exportName,
		api.OptAbort:      (*Talk).abort,
		api.OptList:       (*Talk).list,
		api.OptStartTLS:   (*Talk).startTLS,
		api.OptInfo:       (*Talk).info,
		api.OptGo:         (*Talk).enter,
		api.OptStructured: (*Talk).structure,
		api.OptListMeta:   (*Talk).listContexts,
		api.OptSetMeta:    (*Talk).setContexts,
		api.OptExtended:   (*Talk).extend,
	}
}

// Option takes an option, and tells the answers and what follows (P10.5).
func (t *Talk) Option(o api.Option) ([]api.OptionReply, api.NegoStep, api.Errno) {
	switch {
	case !t.usable():
		return nil, api.NegoStep{}, api.ErrNil
	case t.phase != awaitsOptions:
		return nil, api.NegoStep{}, api.ErrOver
	}
	a := t.haggle(o)
	switch a.step.Kind {
	case api.NegoStart:
		t.phase = hasBegun
	case api.NegoEnd:
		t.phase = isOver
	}
	for i := range a.replies {
		a.replies[i].Option = o.Code
	}
	return a.replies, a.step, api.OK
}

// haggle goes by the rules of P10.5, in their order.
func (t *Talk) haggle(o api.Option) answer {
	if o.Code == api.OptSetMeta { // here, since a refusal by any rule takes the choice away
		t.chosen = choice{}
	}
	if o.Code != api.OptExportName {
		switch {
		case t.flags&api.HandFixed == 0:
			return ending()
		case o.Long:
			return refusal(api.RepTooBig)
		}
	}
	if do, known := deeds()[o.Code]; known {
		return do(t, o)
	}
	return refusal(api.RepUnsup)
}

func (t *Talk) abort(api.Option) answer {
	a := closed(nil, api.RepAck)
	a.step.Kind = api.NegoEnd
	return a
}

func (t *Talk) list(o api.Option) answer {
	if len(o.Data) > 0 {
		return refusal(api.RepInvalid)
	}
	var told []api.OptionReply
	for _, e := range t.exports {
		data, _ := wire.PackServer(api.ServerItem{Name: e.Name})
		told = append(told, api.OptionReply{Kind: api.RepServer, Data: data})
	}
	return closed(told, api.RepAck)
}

func (t *Talk) startTLS(o api.Option) answer {
	if len(o.Data) > 0 {
		return refusal(api.RepInvalid)
	}
	return refusal(api.RepUnsup)
}

func (t *Talk) structure(o api.Option) answer {
	if len(o.Data) > 0 || t.agreed.Extended {
		return refusal(api.RepInvalid)
	}
	t.agreed.Structured = true
	return closed(nil, api.RepAck)
}

func (t *Talk) extend(o api.Option) answer {
	if len(o.Data) > 0 {
		return refusal(api.RepInvalid)
	}
	t.agreed.Structured, t.agreed.Extended = true, true
	return closed(nil, api.RepAck)
}

// begin fixes the session with an export (P10.11), and tells that the transmission follows.
func (t *Talk) begin(export int) api.NegoStep {
	t.agreed.Index = export
	if t.chosen.export == export {
		t.agreed.Contexts = t.chosen.ids
	}
	return api.NegoStep{Kind: api.NegoStart}
}

// refusedFor is the refusal of Data that cannot be unpacked.
func refusedFor(e api.Errno) uint32 {
	if e == api.ErrMany {
		return api.RepTooBig
	}
	return api.RepInvalid
}
