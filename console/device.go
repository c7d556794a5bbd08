package console

import (
	"spindle/api"
	"spindle/cache"
	"spindle/disk"
	"spindle/label"
	"spindle/octet"
	"spindle/track"
	"spindle/volume"
	"spindle/words"
)

// Lines about an export's bytes.

// A device is an export's bytes: a volume, or a track.
type device interface {
	Size() uint64
	Read(off uint64, n int) ([]byte, uint64, api.Errno)
	Write(off uint64, b []byte) (uint64, api.Errno)
	Zero(off uint64, n uint64, keep bool) (uint64, api.Errno)
	Trim(off uint64, n uint64) (uint64, api.Errno)
	Flush() api.Errno
	Extents(off uint64, n uint64) ([]api.Extent, uint64, api.Errno)
}

// An opened export is its device, over a disk of its own.
type opened struct {
	device
	disk *disk.Disk
}

func (c *Console) open(i int) (opened, error) {
	d, l, err := c.labelled(i)
	if err != nil {
		return opened{}, err
	}
	places, e := label.Layout(l)
	if e != api.OK {
		return opened{}, refused(e)
	}
	var notes []api.Span
	for _, p := range places {
		notes = append(notes, p.Notes)
	}
	lines, e := cache.New(d, api.ConsoleSize, notes)
	if e != api.OK {
		return opened{}, refused(e)
	}
	x, e := deviceAt(lines, places[i], l.Exports[i].Tracked)
	return opened{x, d}, refused(e)
}

func deviceAt(c *cache.Cache, p api.Place, tracked bool) (device, api.Errno) {
	if tracked {
		return track.Open(c, p)
	}
	return volume.Open(c, p)
}

// bytes tells all of them.
func (x opened) bytes() ([]byte, error) {
	b, _, e := x.Read(0, int(x.Size()))
	return b, refused(e)
}

// extents tells those of all bytes.
func (x opened) extents() ([]api.Extent, error) {
	list, _, e := x.Extents(0, x.Size())
	return list, refused(e)
}

// changed has done something to an export's device, with that answer: the disk is what is safe then.
func (c *Console) changed(x opened, e api.Errno) error {
	if e == api.OK {
		e = x.Flush()
	}
	if e != api.OK {
		return refused(e)
	}
	c.image = x.disk.Image()
	return nil
}

// changes does something to an export's device.
func changes(i int, do func(device) api.Errno) deed {
	return func(c *Console, _ *words.Page) error {
		x, err := c.open(i)
		if err != nil {
			return err
		}
		return c.changed(x, do(x.device))
	}
}

func readWrite(r *words.Reader) deed {
	i := r.Int()
	off := r.U64()
	b := r.Bytes()
	return changes(i, func(d device) api.Errno {
		_, e := d.Write(off, b)
		return e
	})
}

func readZero(r *words.Reader) deed {
	i := r.Int()
	off := r.U64()
	n := r.U64()
	return changes(i, func(d device) api.Errno {
		_, e := d.Zero(off, n, false)
		return e
	})
}

func readTrim(r *words.Reader) deed {
	i := r.Int()
	off := r.U64()
	n := r.U64()
	return changes(i, func(d device) api.Errno {
		_, e := d.Trim(off, n)
		return e
	})
}

func readClear(r *words.Reader) deed {
	return changes(r.Int(), func(d device) api.Errno {
		t, marked := d.(*track.Track)
		if !marked {
			return api.ErrMarks
		}
		_, e := t.Clear()
		return e
	})
}

func readRead(r *words.Reader) deed {
	i := r.Int()
	off := r.U64()
	n := r.Int()
	return func(c *Console, out *words.Page) error {
		x, err := c.open(i)
		if err != nil {
			return err
		}
		b, _, e := x.Read(off, n)
		if e != api.OK {
			return refused(e)
		}
		out.Add("bytes", octet.Quote(string(b)))
		return nil
	}
}

func readExtents(r *words.Reader) deed {
	i := r.Int()
	return func(c *Console, out *words.Page) error {
		x, err := c.open(i)
		if err != nil {
			return err
		}
		list, err := x.extents()
		if err != nil {
			return err
		}
		for _, run := range list {
			out.Add(runWords(run)...)
		}
		return nil
	}
}

func runWords(x api.Extent) []string {
	out := []string{"run", octet.Decimal(x.Off), octet.Decimal(x.Len)}
	if x.Hole {
		out = append(out, "hole")
	}
	if x.Dirty {
		out = append(out, "dirty")
	}
	return out
}
