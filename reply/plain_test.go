package reply_test

import (
	"math/big"

	"spindle/api"
)

func number(n uint64) *big.Int { return new(big.Int).SetUint64(n) }

func sum(l ...uint64) *big.Int {
	out := new(big.Int)
	for _, n := range l {
		out.Add(out, number(n))
	}
	return out
}

// wrong answers what of P12.1 an outcome breaks, each line read by itself and with numbers that have no end.
func wrong(c call) []string {
	var out []string
	note := func(breaks bool, what string) {
		if breaks {
			out = append(out, what)
		}
	}
	if c.o.Code != 0 {
		note(len(c.o.Pieces) > 0, "pieces beside an error")
		note(len(c.o.Runs) > 0, "runs beside an error")
		note(!c.o.Placed && c.o.At != 0, "at without a place")
		at, end := number(c.o.At), sum(c.r.Offset, c.r.Length)
		note(c.o.Placed && at.Cmp(number(c.r.Offset)) < 0, "placed below")
		note(c.o.Placed && at.Cmp(end) >= 0, "placed behind")
		return out
	}
	note(c.o.Placed, "placed without an error")
	note(c.o.At != 0, "at without an error")
	note(c.r.Type != api.CmdRead && len(c.o.Pieces) > 0, "pieces beside another")
	note(c.r.Type != api.CmdStatus && len(c.o.Runs) > 0, "runs beside another")
	if c.r.Type == api.CmdRead {
		wrongPieces(c, note)
	}
	if c.r.Type == api.CmdStatus {
		wrongRuns(c, note)
	}
	return out
}

func wrongPieces(c call, note func(bool, string)) {
	next := number(c.r.Offset)
	for _, p := range c.o.Pieces {
		note(number(p.Off).Cmp(next) < 0, "a piece below its place")
		note(number(p.Off).Cmp(next) > 0, "a piece above its place")
		note(p.Len == 0, "a piece of none")
		note(p.Hole && len(p.Data) > 0, "a hole with data")
		note(!p.Hole && len(p.Data) < int(p.Len), "fewer bytes")
		note(!p.Hole && len(p.Data) > int(p.Len), "more bytes")
		next = sum(p.Off, uint64(p.Len))
		note(next.Cmp(sum(top, 1)) > 0, "a piece beyond the last byte")
	}
	var lens []uint64
	for _, p := range c.o.Pieces {
		lens = append(lens, uint64(p.Len))
	}
	note(sum(lens...).Cmp(number(c.r.Length)) < 0, "too few bytes")
	note(sum(lens...).Cmp(number(c.r.Length)) > 0, "too many bytes")
}

func wrongRuns(c call, note func(bool, string)) {
	note(!c.s.Structured && !c.s.Extended, "a status without chunks")
	note(len(c.s.Contexts) == 0, "a status without contexts")
	note(len(c.o.Runs) < len(c.s.Contexts), "too few lists")
	note(len(c.o.Runs) > len(c.s.Contexts), "too many lists")
	for _, l := range c.o.Runs {
		var lens []uint64
		note(len(l) == 0, "a list without a run")
		for _, run := range l {
			lens = append(lens, run.Len)
			note(run.Len == 0, "a run of none")
			note(!c.s.Extended && run.Len > narrow, "a great run")
			note(!c.s.Extended && run.Flags > narrow, "great flags")
		}
		note(sum(lens...).Cmp(number(c.r.Length)) < 0, "too short a list")
		note(sum(lens...).Cmp(number(c.r.Length)) > 0, "too long a list")
	}
}

// plainly makes the bytes of an answer as the chapters 8 and 12 have them, and says in how many chunks it comes: 0 of a simple one.
func plainly(c call) ([]byte, int) {
	if !c.s.Extended && (!c.s.Structured || c.r.Type != 0 && c.r.Type != 7) {
		out := lay(uint32(0x67446698), c.o.Code, c.r.Cookie)
		return append(out, told(c.o.Pieces)...), 0
	}
	l := bodies(c)
	var out []byte
	for i, b := range l {
		done := uint16(0)
		if i+1 == len(l) {
			done = 1
		}
		if c.s.Extended {
			out = append(out, lay(uint32(0x6e8a278c), done, b.Type, c.r.Cookie, c.r.Offset, uint64(len(b.Data)), b.Data)...)
		} else {
			out = append(out, lay(uint32(0x668e33ef), done, b.Type, c.r.Cookie, uint32(len(b.Data)), b.Data)...)
		}
	}
	return out, len(l)
}

// told are the bytes of pieces, one behind the other.
func told(l []api.Piece) []byte {
	var out []byte
	for _, p := range l {
		if p.Hole {
			out = append(out, make([]byte, p.Len)...)
		} else {
			out = append(out, p.Data...)
		}
	}
	return out
}

// bodies are the types and the data of the chunks.
func bodies(c call) []api.Chunk {
	var out []api.Chunk
	switch {
	case c.o.Code != 0 && c.o.Placed:
		return []api.Chunk{body(32770, c.o.Code, uint16(0), c.o.At)}
	case c.o.Code != 0:
		return []api.Chunk{body(32769, c.o.Code, uint16(0))}
	case c.r.Type == api.CmdStatus:
		for i, l := range c.o.Runs {
			out = append(out, statusBody(c, c.s.Contexts[i], l))
		}
		return out
	case c.r.Type != api.CmdRead || c.r.Length == 0:
		return []api.Chunk{body(0)}
	case c.r.Flags&4 != 0:
		return []api.Chunk{body(1, c.r.Offset, told(c.o.Pieces))}
	}
	for _, p := range c.o.Pieces {
		if p.Hole {
			out = append(out, body(2, p.Off, p.Len))
		} else {
			out = append(out, body(1, p.Off, p.Data))
		}
	}
	return out
}

func statusBody(c call, context uint32, l []api.StatusRun) api.Chunk {
	if c.r.Flags&8 != 0 {
		l = l[:1]
	}
	out := body(5, context)
	if c.s.Extended {
		out = body(6, context, uint32(len(l)))
	}
	for _, run := range l {
		if c.s.Extended {
			out.Data = append(out.Data, lay(run.Len, run.Flags)...)
		} else {
			out.Data = append(out.Data, lay(uint32(run.Len), uint32(run.Flags))...)
		}
	}
	return out
}
