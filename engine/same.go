package engine

import (
	"bytes"
	"slices"

	"spindle/api"
)

// same tells whether two scripts are one and the same, in all of their fields.
func same(a, b api.Script) bool {
	return a.Sectors == b.Sectors && a.Config == b.Config &&
		slices.Equal(a.Label.Exports, b.Label.Exports) &&
		slices.EqualFunc(a.Lines, b.Lines, sameLine)
}

func sameLine(a, b api.ScriptLine) bool {
	return a.Kind == b.Kind && a.Who == b.Who && a.N == b.N && sameStep(a.Step, b.Step) && sameAsk(a.Ask, b.Ask)
}

func sameStep(a, b api.Step) bool {
	return a.Kind == b.Kind && a.Conn == b.Conn && a.N == b.N && a.Fault == b.Fault &&
		bytes.Equal(a.Data, b.Data) && slices.Equal(a.Keep, b.Keep)
}

func sameAsk(a, b api.Ask) bool {
	return a.Kind == b.Kind && a.Flags == b.Flags && a.Name == b.Name && a.Code == b.Code &&
		slices.Equal(a.Infos, b.Infos) && slices.Equal(a.Queries, b.Queries) &&
		bytes.Equal(a.Data, b.Data) && sameRequest(a.Req, b.Req)
}

func sameRequest(a, b api.Request) bool {
	return a.Flags == b.Flags && a.Type == b.Type && a.Cookie == b.Cookie && a.Offset == b.Offset && a.Length == b.Length &&
		bytes.Equal(a.Data, b.Data)
}
