package audit

import (
	"slices"

	"spindle/api"
)

// mended gives a copy that is mended by what one look finds.
func (d disk) mended(force bool) disk {
	a := d.look()
	places := placesOf(a)
	out := slices.Clone(d)
	for _, f := range a.Findings {
		switch f.Kind {
		case api.FindHead:
			out.wipe(f.At)
		case api.FindSame:
			if force {
				out.wipe(1) // slot 0 is the one in force
			}
		case api.FindBody:
			if force || f.At != a.Slot {
				out.wipe(f.At)
			}
		case api.FindNote:
			out.cutOff(places[f.At].Notes, places[f.At].Data.Count)
		case api.FindMark:
			out.cutOff(places[f.At].Marks, places[f.At].Data.Count)
		}
	}
	return out
}
