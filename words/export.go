package words

import (
	"strconv"

	"spindle/api"
	"spindle/octet"
)

// The bits of an export's flags.
const (
	flagReadOnly = 1 << iota
	flagRotational
	flagPrivate
	flagTracked
	allFlags = flagReadOnly | flagRotational | flagPrivate | flagTracked
)

// Export takes the words of an export. Whether it may be is not looked at.
func (r *Reader) Export() api.Export {
	var x api.Export
	x.Name = r.Quoted()
	x.Sectors = r.Int()
	x.Min = r.U32()
	x.Pref = r.U32()
	flags := r.Number(allFlags)
	x.ReadOnly = flags&flagReadOnly != 0
	x.Rotational = flags&flagRotational != 0
	x.Private = flags&flagPrivate != 0
	x.Tracked = flags&flagTracked != 0
	x.Desc = r.Quoted()
	return x
}

// OfExport gives the words of an export.
func OfExport(x api.Export) []string {
	flags := bit(x.ReadOnly, flagReadOnly) | bit(x.Rotational, flagRotational) | bit(x.Private, flagPrivate) | bit(x.Tracked, flagTracked)
	return []string{
		octet.Quote(x.Name),
		strconv.Itoa(x.Sectors),
		octet.Decimal(uint64(x.Min)),
		octet.Decimal(uint64(x.Pref)),
		octet.Decimal(flags),
		octet.Quote(x.Desc),
	}
}

func bit(has bool, flag uint64) uint64 {
	if has {
		return flag
	}
	return 0
}
