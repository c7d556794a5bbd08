package server

import (
	"spindle/api"
	"spindle/cache"
	"spindle/disk"
	"spindle/label"
	"spindle/track"
	"spindle/volume"
)

// A machine is what a server has while it is up. A crash leaves nothing of it.
type machine struct {
	label  api.Label
	cache  *cache.Cache
	stores []store   // in the exports' order
	conns  []*served // those that are there, by rising number
}

// A store is what the machine has of an export: its track, if it is tracked, else its volume.
type store struct {
	volume *volume.Volume
	track  *track.Track
}

// start makes a machine out of what stands on the disk, by reading alone (P15.10).
func start(d *disk.Disk, lines int) (*machine, api.Errno) {
	l, _, e := label.Load(d)
	if e != api.OK {
		return nil, e
	}
	// What a label tells lies on its disk, each export apart from all others: nothing below is refused.
	places, _ := label.Layout(l)
	c, _ := cache.New(d, lines, notesOf(places))
	m := &machine{label: l, cache: c}
	for i, p := range places {
		m.stores = append(m.stores, openStore(c, p, l.Exports[i]))
	}
	return m, api.OK
}

// notesOf gives the note sectors of all places.
func notesOf(places []api.Place) []api.Span {
	var notes []api.Span
	for _, p := range places {
		notes = append(notes, p.Notes)
	}
	return notes
}

func openStore(c *cache.Cache, p api.Place, x api.Export) store {
	var s store
	if x.Tracked {
		s.track, _ = track.Open(c, p)
	} else {
		s.volume, _ = volume.Open(c, p)
	}
	return s
}

// device gives the bytes that all connections of the export share, if it is not private.
func (s store) device() device {
	if s.track != nil {
		return s.track
	}
	return s.volume
}

// told tells the connections that are there.
func (m *machine) told() []api.Served {
	var out []api.Served
	for _, c := range m.conns {
		out = append(out, api.Served{Conn: c.number, Look: c.peer.Look()})
	}
	return out
}
