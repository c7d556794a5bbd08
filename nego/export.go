package nego

import (
	"slices"

	"spindle/api"
	"spindle/wire"
)

// Export tells what the wire says of an export (P10.6).
func Export(e api.Export, l api.Limits, structured bool) []api.Info {
	return []api.Info{
		{Kind: api.InfoExport, Size: uint64(max(e.Sectors, 0)) * api.SectorSize, Flags: exportFlags(e, structured)},
		{Kind: api.InfoName, Text: e.Name},
		{Kind: api.InfoDesc, Text: e.Desc},
		{Kind: api.InfoBlock, Min: e.Min, Pref: e.Pref, Max: l.Payload},
	}
}

func exportFlags(e api.Export, structured bool) uint16 {
	var f uint16 = api.TxHas | api.TxFlush | api.TxFua | api.TxCache
	if !e.Private {
		f |= api.TxMulti
	}
	if e.ReadOnly {
		f |= api.TxReadOnly
	} else {
		f |= api.TxTrim | api.TxZeroes | api.TxFast
	}
	if e.Rotational {
		f |= api.TxRotational
	}
	if structured {
		f |= api.TxDF
	}
	return f
}

// infos are the informations of the export of that number, as things stand.
func (t *Talk) infos(export int) []api.Info {
	return Export(t.exports[export], api.Limits{Payload: t.payload}, t.agreed.Structured)
}

// find tells the number of the export that a name stands for, -1 of none (P10.9).
func (t *Talk) find(name string) int {
	if name == "" {
		return 0
	}
	return slices.IndexFunc(t.exports, func(e api.Export) bool { return e.Name == name })
}

// exportName is P10.7.
func (t *Talk) exportName(o api.Option) answer {
	export := t.find(string(o.Data))
	if o.Long || export < 0 {
		return ending()
	}
	i := t.infos(export)[0]
	step := t.begin(export)
	step.Old = true
	step.Zeroes = t.flags&api.HandNoZeroes == 0
	step.Export = api.ExportReply{Size: i.Size, Flags: i.Flags}
	return answer{step: step}
}

func (t *Talk) info(o api.Option) answer {
	told, _, last := t.describe(o)
	return closed(told, last)
}

func (t *Talk) enter(o api.Option) answer {
	told, export, last := t.describe(o)
	a := closed(told, last)
	if last == api.RepAck {
		a.step = t.begin(export)
	}
	return a
}

// describe answers what INFO and GO are told of which export, and the kind of the last reply (P10.8).
func (t *Talk) describe(o api.Option) ([]api.OptionReply, int, uint32) {
	q, e := wire.UnpackInfoRequest(o.Data)
	if e != api.OK {
		return nil, 0, refusedFor(e)
	}
	export := t.find(q.Name)
	if export < 0 {
		return nil, 0, api.RepUnknown
	}
	if t.exports[export].Min > 1 && !slices.Contains(q.Infos, api.InfoBlock) {
		return nil, 0, api.RepBlockSize
	}
	var told []api.OptionReply
	for _, i := range picked(t.infos(export), q.Infos) {
		data, _ := wire.PackInfo(i)
		told = append(told, api.OptionReply{Kind: api.RepInfo, Data: data})
	}
	return told, export, api.RepAck
}

// picked picks InfoExport, asked or not, and behind it what else is asked, in the order of asking, each once.
func picked(infos []api.Info, asked []uint16) []api.Info {
	var out []api.Info
	for _, kind := range slices.Concat([]uint16{api.InfoExport}, asked) {
		isKind := func(i api.Info) bool { return i.Kind == kind }
		if at := slices.IndexFunc(infos, isKind); at >= 0 && !slices.ContainsFunc(out, isKind) {
			out = append(out, infos[at])
		}
	}
	return out
}
