package console

import (
	"spindle/api"
	"spindle/audit"
	"spindle/disk"
	"spindle/label"
	"spindle/server"
	"spindle/words"
)

// Lines about the disk as a whole, and about what its label says.

func readExport(r *words.Reader) deed {
	x := r.Export()
	return func(c *Console, _ *words.Page) error {
		if len(c.draft) == api.MaxExports {
			return refused(api.ErrExports)
		}
		c.draft = append(c.draft, x)
		return nil
	}
}

func readForget(*words.Reader) deed {
	return func(c *Console, _ *words.Page) error {
		c.draft = nil
		return nil
	}
}

func readFormat(r *words.Reader) deed {
	sectors := r.Int()
	return func(c *Console, _ *words.Page) error {
		image, e := server.Format(sectors, api.Label{Exports: c.draft})
		if e != api.OK {
			return refused(e)
		}
		c.image = image
		return nil
	}
}

func readAudit(*words.Reader) deed {
	return func(c *Console, out *words.Page) error {
		a, e := audit.Look(c.image)
		if e != api.OK {
			return refused(e)
		}
		out.AddText(audit.Tell(a))
		return nil
	}
}

func readRepair(r *words.Reader) deed {
	force := r.Match("force")
	return func(c *Console, _ *words.Page) error {
		image, e := audit.Repair(c.image, force)
		if e != api.OK {
			return refused(e)
		}
		c.image = image
		return nil
	}
}

func readRename(r *words.Reader) deed {
	i := r.Int()
	name := r.Quoted()
	return relabels(i, func(x *api.Export) { x.Name = name })
}

func readDescribe(r *words.Reader) deed {
	i := r.Int()
	desc := r.Quoted()
	return relabels(i, func(x *api.Export) { x.Desc = desc })
}

func readReadOnly(r *words.Reader) deed {
	i := r.Int()
	on := r.Match("on")
	if !on && !r.Match("off") {
		r.Fail()
	}
	return relabels(i, func(x *api.Export) { x.ReadOnly = on })
}

// relabels puts a label in force in which that export is turned.
func relabels(i int, turn func(*api.Export)) deed {
	return func(c *Console, _ *words.Page) error {
		d, l, err := c.labelled(i)
		if err != nil {
			return err
		}
		turn(&l.Exports[i])
		if e := label.Commit(d, l); e != api.OK {
			return refused(e)
		}
		c.image = d.Image()
		return nil
	}
}

// labelled loads the disk and its label, which must have that export.
func (c *Console) labelled(i int) (*disk.Disk, api.Label, error) {
	d, e := disk.Load(c.image)
	if e != api.OK {
		return nil, api.Label{}, refused(e)
	}
	l, _, e := label.Load(d)
	switch {
	case e != api.OK:
		return nil, api.Label{}, refused(e)
	case i >= len(l.Exports):
		return nil, api.Label{}, refused(api.ErrArg)
	}
	return d, l, nil
}
