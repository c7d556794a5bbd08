package label

import "spindle/api"

// sectorBits is for how many data sectors one note or mark sector has a bit.
const sectorBits = 8 * api.SectorSize

// Layout tells where each export lies (P6.2).
func Layout(l api.Label) ([]api.Place, api.Errno) {
	if e := Check(l); e != api.OK {
		return nil, e
	}
	return places(l), api.OK
}

// Sectors tells how many sectors a disk must have for a label (P6.3).
func Sectors(l api.Label) (int, api.Errno) {
	if e := Check(l); e != api.OK {
		return 0, e
	}
	return end(places(l)), api.OK
}

// places lays the exports out one behind the other; of each, Check has looked at the number of sectors, so that no sum wraps.
func places(l api.Label) []api.Place {
	var out []api.Place
	for _, e := range l.Exports {
		out = append(out, place(e, end(out)))
	}
	return out
}

func place(e api.Export, first int) api.Place {
	bits := (e.Sectors + sectorBits - 1) / sectorBits
	p := api.Place{Notes: api.Span{First: first, Count: bits}}
	first += bits
	if e.Tracked {
		p.Marks = api.Span{First: first, Count: bits}
		first += bits
	}
	p.Data = api.Span{First: first, Count: e.Sectors}
	return p
}

// end is the first sector behind the label and these exports.
func end(laid []api.Place) int {
	if len(laid) == 0 {
		return api.LabelSize
	}
	last := laid[len(laid)-1].Data
	return last.First + last.Count
}
