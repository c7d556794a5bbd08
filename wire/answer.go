package wire

import (
	"math"

	"spindle/api"
	"spindle/octet"
)

// PackStatus lays a block status down (P8.5).
func PackStatus(s api.StatusBody, wide bool) ([]byte, api.Errno) {
	if !statusFits(s, wide) {
		return nil, api.ErrForm
	}
	w := octet.NewWriter()
	w.U32(s.Context)
	if wide {
		w.U32(uint32(len(s.Runs)))
	}
	for _, run := range s.Runs {
		layNumber(w, run.Len, wide)
		layNumber(w, run.Flags, wide)
	}
	return w.Out(), api.OK
}

func statusFits(s api.StatusBody, wide bool) bool {
	for _, run := range s.Runs {
		if !wide && max(run.Len, run.Flags) > math.MaxUint32 {
			return false
		}
	}
	return len(s.Runs) > 0
}

// UnpackStatus reads a block status (P8.6).
func UnpackStatus(b []byte, wide bool) (api.StatusBody, api.Errno) {
	x := unpack(b)
	s := api.StatusBody{Context: x.u32()}
	var said uint32
	if wide {
		said = x.u32()
	}
	// Runs are read as long as there are bytes: the number that is said is only held against them (P8.1).
	for x.well() && x.left() > 0 {
		s.Runs = append(s.Runs, api.StatusRun{Len: x.number(wide), Flags: x.number(wide)})
	}
	x.need(len(s.Runs) > 0)
	x.need(!wide || uint64(said) == uint64(len(s.Runs)))
	return whole(x, s)
}

// PackError lays an error down (P8.5).
func PackError(e api.ErrorBody) ([]byte, api.Errno) {
	if !isText(e.Text) || !e.Placed && e.At != 0 {
		return nil, api.ErrForm
	}
	w := octet.NewWriter()
	w.U32(e.Code)
	w.U16(uint16(len(e.Text)))
	w.Raw([]byte(e.Text))
	if e.Placed {
		w.U64(e.At)
	}
	return w.Out(), api.OK
}

// UnpackError reads an error; placed: with a place (P8.6).
func UnpackError(b []byte, placed bool) (api.ErrorBody, api.Errno) {
	x := unpack(b)
	e := api.ErrorBody{Code: x.u32(), Placed: placed}
	e.Text = x.rawText(int(x.u16()))
	if placed {
		e.At = x.u64()
	}
	return whole(x, e)
}

// PackData lays data down (P8.5).
func PackData(d api.DataBody) ([]byte, api.Errno) {
	if len(d.Data) == 0 {
		return nil, api.ErrForm
	}
	w := octet.NewWriter()
	w.U64(d.Off)
	w.Raw(d.Data)
	return w.Out(), api.OK
}

// UnpackData reads data (P8.6).
func UnpackData(b []byte) (api.DataBody, api.Errno) {
	x := unpack(b)
	d := api.DataBody{Off: x.u64()}
	x.need(x.left() > 0)
	d.Data = x.raw(x.left())
	return whole(x, d)
}

// PackHole lays a hole down (P8.5).
func PackHole(h api.HoleBody) []byte {
	w := octet.NewWriter()
	w.U64(h.Off)
	w.U32(h.Len)
	return w.Out()
}

// UnpackHole reads a hole (P8.6).
func UnpackHole(b []byte) (api.HoleBody, api.Errno) {
	x := unpack(b)
	return whole(x, api.HoleBody{Off: x.u64(), Len: x.u32()})
}
