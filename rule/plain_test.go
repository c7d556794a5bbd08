package rule_test

import (
	"math/big"

	"spindle/api"
)

// applies answers which of the eleven rules apply, each read by itself as the chapter has it; of a CmdDisc and a CmdFlush nothing behind rule 3 is asked.
func applies(x asked) []int {
	var out []int
	for n := 1; n <= 11; n++ {
		if broken(n, x) {
			out = append(out, n)
		}
		if n == 3 && (x.q.Type == 2 || x.q.Type == 3) {
			return out
		}
	}
	return out
}

// broken tells whether one rule applies.
func broken(n int, x asked) bool {
	q, lone := x.q, !x.s.Structured && !x.s.Extended
	df, fast := q.Flags&4 != 0, q.Flags&16 != 0
	switch n {
	case 1:
		return q.Type > 7
	case 2:
		return wrongFlag(x) || df && lone
	case 3:
		return q.Type == 3 && (q.Offset != 0 || q.Length != 0)
	case 4:
		return (q.Type == 1 || q.Type == 4 || q.Type == 6) && x.e.ReadOnly
	case 5:
		return q.Type == 7 && (lone || len(x.s.Contexts) == 0)
	case 6:
		return q.Length == 0
	case 7:
		return (q.Type == 0 || q.Type == 1) && q.Length > uint64(x.l.Payload)
	case 8:
		return df && q.Length > 65536
	case 9:
		return last(q).Cmp(bytesOf(x.e)) > 0
	case 10:
		return x.e.Min > 1 && (q.Offset%uint64(x.e.Min) != 0 || q.Length%uint64(x.e.Min) != 0)
	}
	return fast && (q.Flags&2 != 0 || q.Offset%512 != 0 || q.Length%512 != 0)
}

// wrongFlag goes through the bits one by one.
func wrongFlag(x asked) bool {
	payload := x.q.Type == 1 && x.s.Extended
	if payload && x.q.Flags&32 == 0 {
		return true
	}
	for bit := uint16(1); bit != 0; bit <<= 1 {
		may := false
		switch bit {
		case 1:
			may = x.q.Type <= 7
		case 2, 16:
			may = x.q.Type == 6
		case 4:
			may = x.q.Type == 0
		case 8:
			may = x.q.Type == 7
		case 32:
			may = payload
		}
		if x.q.Flags&bit != 0 && !may {
			return true
		}
	}
	return false
}

// last is where a range ends, which may be beyond 2^64.
func last(q api.Request) *big.Int {
	return new(big.Int).Add(new(big.Int).SetUint64(q.Offset), new(big.Int).SetUint64(q.Length))
}

// bytesOf is the size of an export.
func bytesOf(e api.Export) *big.Int {
	if e.Sectors < 0 {
		return new(big.Int)
	}
	n := new(big.Int).Mul(big.NewInt(int64(e.Sectors)), big.NewInt(512))
	return n.Mod(n, new(big.Int).Lsh(big.NewInt(1), 64))
}

// told is the error that a rule tells.
func told(n int, command uint16) uint32 {
	switch n {
	case 4:
		return 1
	case 8:
		return 75
	case 9:
		return beyond(command)
	case 11:
		return 95
	}
	return 22
}

// plain is what Check is to answer.
func plain(x asked) uint32 {
	if l := applies(x); len(l) > 0 {
		return told(l[0], x.q.Type)
	}
	return 0
}
