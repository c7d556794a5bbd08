package console

import (
	"maps"
	"slices"
	"strconv"

	"spindle/api"
	"spindle/audit"
	"spindle/backup"
	"spindle/octet"
	"spindle/words"
)

// Lines about what is kept beside the disk: images on shelves, and archives.

// keep keeps a thing by its name, in the place of an older one; so many others may be kept.
func keep[K comparable, V any](all map[K]V, name K, v V, most int) error {
	if _, older := all[name]; !older && len(all) >= most {
		return refused(api.ErrBusy)
	}
	all[name] = v
	return nil
}

// kept gives what is kept by a name.
func kept[K comparable, V any](all map[K]V, name K) (V, error) {
	v, is := all[name]
	if !is {
		return v, refused(api.ErrNone)
	}
	return v, nil
}

func readShelve(r *words.Reader) deed {
	name := r.Quoted()
	return func(c *Console, _ *words.Page) error {
		return keep(c.shelves, name, c.image, api.MaxShelves)
	}
}

func readUse(r *words.Reader) deed {
	name := r.Quoted()
	return func(c *Console, _ *words.Page) error {
		image, err := kept(c.shelves, name)
		if err != nil {
			return err
		}
		c.image = image
		return nil
	}
}

func readDrop(r *words.Reader) deed {
	name := r.Quoted()
	return func(c *Console, _ *words.Page) error {
		_, err := kept(c.shelves, name)
		delete(c.shelves, name)
		return err
	}
}

func readShelves(*words.Reader) deed {
	return func(c *Console, out *words.Page) error {
		for _, name := range slices.Sorted(maps.Keys(c.shelves)) {
			out.Add("shelf", octet.Quote(name), strconv.Itoa(len(c.shelves[name])/api.SectorSize))
		}
		return nil
	}
}

func readDiffer(r *words.Reader) deed {
	name := r.Quoted()
	i := r.Int()
	return func(c *Console, out *words.Page) error {
		image, err := kept(c.shelves, name)
		if err != nil {
			return err
		}
		ranges, e := audit.Differ(c.image, image, i)
		for _, x := range ranges {
			out.Add("range", strconv.FormatInt(x.Lo, 10), strconv.FormatInt(x.Hi, 10))
		}
		return refused(e)
	}
}

func readBackup(r *words.Reader) deed {
	id := r.U64()
	parent := r.U64()
	i := r.Int()
	return func(c *Console, out *words.Page) error {
		x, err := c.open(i)
		if err != nil {
			return err
		}
		b, err := x.bytes()
		if err != nil {
			return err
		}
		list, err := x.extents()
		if err != nil {
			return err
		}
		a, e := backup.Make(id, parent, b, list)
		return c.archive(a, e, out)
	}
}

// archive keeps an archive that a call has answered, and tells it.
func (c *Console) archive(a api.Archive, e api.Errno, out *words.Page) error {
	if e != api.OK {
		return refused(e)
	}
	out.Add(archiveWords(a)...)
	return keep(c.archives, a.ID, a, api.MaxArchives)
}

func archiveWords(a api.Archive) []string {
	return []string{"archive", octet.Decimal(a.ID), octet.Decimal(a.Parent), octet.Decimal(a.Size), strconv.Itoa(len(a.Runs))}
}

func readArchives(*words.Reader) deed {
	return func(c *Console, out *words.Page) error {
		for _, id := range slices.Sorted(maps.Keys(c.archives)) {
			out.Add(archiveWords(c.archives[id])...)
		}
		return nil
	}
}

// chain gives the archives with these IDs.
func (c *Console) chain(ids []uint64) ([]api.Archive, error) {
	var out []api.Archive
	for _, id := range ids {
		a, err := kept(c.archives, id)
		if err != nil {
			return nil, err
		}
		out = append(out, a)
	}
	return out, nil
}

func readJoin(r *words.Reader) deed {
	ids := []uint64{r.U64(), r.U64()}
	return func(c *Console, out *words.Page) error {
		both, err := c.chain(ids)
		if err != nil {
			return err
		}
		a, e := backup.Join(both[0], both[1])
		return c.archive(a, e, out)
	}
}

func readRestore(r *words.Reader) deed {
	i := r.Int()
	ids := []uint64{r.U64()}
	for r.More() {
		ids = append(ids, r.U64())
	}
	return func(c *Console, _ *words.Page) error {
		x, err := c.open(i)
		if err != nil {
			return err
		}
		chain, err := c.chain(ids)
		if err != nil {
			return err
		}
		b, _, e := backup.Restore(chain)
		switch {
		case e != api.OK:
			return refused(e)
		case uint64(len(b)) != x.Size():
			return refused(api.ErrDevice)
		}
		_, e = x.Write(0, b)
		return c.changed(x, e)
	}
}
