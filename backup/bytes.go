package backup

import (
	"spindle/api"
	"spindle/octet"
)

// How an archive lies in bytes; sizes are without the check sum behind.
const (
	magic    uint64 = 0x5350494E41524331 // "SPINARC1"
	headSize        = 40                 // magic, ID, Parent, Size, the number of runs
	runSize         = 17                 // Off, Len, one of the two bytes below
	sumSize         = 4

	byteHole = 0
	byteData = 1
)

func encoded(a api.Archive) []byte {
	w := octet.NewWriter()
	seal(w, headOf(a))
	for _, r := range a.Runs {
		seal(w, runHeadOf(r))
		if !r.Hole {
			seal(w, r.Data)
		}
	}
	return w.Out()
}

// seal writes bytes with their check sum behind them.
func seal(w *octet.Writer, b []byte) {
	w.Raw(b)
	w.U32(octet.Crc(b))
}

func headOf(a api.Archive) []byte {
	w := octet.NewWriter()
	w.U64(magic)
	w.U64(a.ID)
	w.U64(a.Parent)
	w.U64(a.Size)
	w.U64(uint64(len(a.Runs)))
	return w.Out()
}

func runHeadOf(r api.ArchiveRun) []byte {
	w := octet.NewWriter()
	w.U64(r.Off)
	w.U64(r.Len)
	if r.Hole {
		w.U8(byteHole)
	} else {
		w.U8(byteData)
	}
	return w.Out()
}

// reader takes an archive from the front of bytes. What may not be it gives up by a panic with the error, which Decode recovers.
type reader struct {
	from *octet.Reader
}

func insist(holds bool, e api.Errno) {
	if !holds {
		panic(e)
	}
}

func (r reader) archive() api.Archive {
	head := octet.NewReader(r.sealed(headSize))
	insist(number(head) == magic, api.ErrSeal)
	var a api.Archive
	a.ID = number(head)
	a.Parent = number(head)
	a.Size = number(head)
	for range number(head) {
		a.Runs = append(a.Runs, r.run())
	}
	insist(r.from.Left() == 0, api.ErrCut)
	insist(mayBe(a), api.ErrArchive)
	return a
}

func (r reader) run() api.ArchiveRun {
	head := octet.NewReader(r.sealed(runSize))
	var out api.ArchiveRun
	out.Off = number(head)
	out.Len = number(head)
	kind, _ := head.U8()
	insist(kind == byteHole || kind == byteData, api.ErrArchive)
	out.Hole = kind == byteHole
	if !out.Hole {
		out.Data = r.sealed(out.Len)
	}
	return out
}

// sealed takes so many bytes, and their check sum.
func (r reader) sealed(size uint64) []byte {
	left := r.from.Left()
	// A run may tell a Len that wraps together with its sum's.
	insist(left >= sumSize && uint64(left-sumSize) >= size, api.ErrCut)
	b, _ := r.from.Raw(int(size))
	sum, _ := r.from.U32()
	insist(sum == octet.Crc(b), api.ErrSeal)
	return b
}

// number takes one out of a head, which has all of its bytes.
func number(head *octet.Reader) uint64 {
	v, _ := head.U64()
	return v
}
