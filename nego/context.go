package nego

import (
	"cmp"
	"slices"
	"strings"

	"spindle/api"
	"spindle/wire"
)

// The contexts' names, and the beginnings by which LIST_META_CONTEXT asks for several of them.
const (
	nameBase    = "base:allocation"
	nameUnsaved = "spindle:unsaved"
	nameDirty   = "spindle:dirty"

	spaceBase = "base:"
	spaceOwn  = "spindle:"
)

// contexts are those that an export has, by their names.
func contexts(e api.Export) map[string]uint32 {
	ids := map[string]uint32{nameBase: api.ContextBase, nameUnsaved: api.ContextUnsaved}
	if e.Tracked {
		ids[nameDirty] = api.ContextDirty
	}
	return ids
}

// named is the context that a query of SET_META_CONTEXT means, or none.
func named(ids map[string]uint32, query string) []api.Meta {
	if id, ok := ids[query]; ok {
		return []api.Meta{{ID: id, Name: query}}
	}
	return nil
}

// listed are the contexts that a query of LIST_META_CONTEXT means, in whatever order.
func listed(ids map[string]uint32, query string) []api.Meta {
	if query != spaceBase && query != spaceOwn {
		return named(ids, query)
	}
	var out []api.Meta
	for name, id := range ids {
		if strings.HasPrefix(name, query) {
			out = append(out, api.Meta{ID: id, Name: name})
		}
	}
	return out
}

// meant are the contexts of an export that queries mean, each once, by rising ids.
func meant(e api.Export, queries []string, means func(ids map[string]uint32, query string) []api.Meta) []api.Meta {
	ids := contexts(e)
	var out []api.Meta
	for _, query := range queries {
		out = append(out, means(ids, query)...)
	}
	slices.SortFunc(out, func(a, b api.Meta) int { return cmp.Compare(a.ID, b.ID) })
	return slices.Compact(out)
}

func (t *Talk) listContexts(o api.Option) answer {
	queries, export, last := t.queries(o)
	if last != api.RepAck {
		return refusal(last)
	}
	if len(queries) == 0 {
		queries = []string{spaceBase, spaceOwn}
	}
	found := meant(t.exports[export], queries, listed)
	for i := range found {
		found[i].ID = 0
	}
	return closed(tellContexts(found), api.RepAck)
}

func (t *Talk) setContexts(o api.Option) answer {
	queries, export, last := t.queries(o)
	if last != api.RepAck {
		return refusal(last)
	}
	found := meant(t.exports[export], queries, named)
	t.chosen = choice{export: export}
	for _, m := range found {
		t.chosen.ids = append(t.chosen.ids, m.ID)
	}
	return closed(tellContexts(found), api.RepAck)
}

// queries answers what an option asks of the contexts of which export, and RepAck, or the kind of its refusal (P10.10).
func (t *Talk) queries(o api.Option) ([]string, int, uint32) {
	if !t.agreed.Structured {
		return nil, 0, api.RepInvalid
	}
	q, e := wire.UnpackMetaRequest(o.Data)
	if e != api.OK {
		return nil, 0, refusedFor(e)
	}
	export := t.find(q.Name)
	if export < 0 {
		return nil, 0, api.RepUnknown
	}
	return q.Queries, export, api.RepAck
}

func tellContexts(found []api.Meta) []api.OptionReply {
	var told []api.OptionReply
	for _, m := range found {
		data, _ := wire.PackMeta(m)
		told = append(told, api.OptionReply{Kind: api.RepMeta, Data: data})
	}
	return told
}
