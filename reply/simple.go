package reply

import (
	"spindle/api"
	"spindle/wire"
)

// simple makes answers of one head, behind which the data of a read stand.
type simple struct {
	r api.Request
	o api.Outcome
}

func (m simple) bytes() []byte { return append(wire.EncodeSimple(m.head()), m.data()...) }

func (m simple) head() api.SimpleReply {
	return api.SimpleReply{Code: m.o.Code, Cookie: m.r.Cookie}
}

// data are those of a read that went well: of all else Length tells of no bytes of the answer.
func (m simple) data() []byte {
	if m.r.Type != api.CmdRead || m.o.Code != 0 {
		return nil
	}
	return gather(m.r, m.o.Pieces)
}
