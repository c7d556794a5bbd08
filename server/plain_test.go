package server_test

import (
	"slices"

	"spindle/api"
	"spindle/cache"
	"spindle/conn"
	"spindle/disk"
	"spindle/label"
	"spindle/overlay"
	"spindle/track"
	"spindle/volume"
)

// plain is a server as the chapter's words have it, one by one, over the layers below it. It forgets no connection, and tells by Over which ones are there.
type plain struct {
	disk    *disk.Disk
	config  api.Config
	next    int
	up      bool
	label   api.Label
	cache   *cache.Cache
	volumes []*volume.Volume
	tracks  []*track.Track
	conns   map[int]*conn.Conn
	own     map[int]*overlay.Overlay
}

// bytesOf is what a volume, a track and an overlay have in common.
type bytesOf interface {
	Read(off uint64, n int) ([]byte, uint64, api.Errno)
	Write(off uint64, b []byte) (uint64, api.Errno)
	Zero(off uint64, n uint64, keep bool) (uint64, api.Errno)
	Trim(off uint64, n uint64) (uint64, api.Errno)
	Fetch(off uint64, n uint64) (uint64, api.Errno)
	Sync(off uint64, n uint64) api.Errno
	Flush() api.Errno
	Extents(off uint64, n uint64) ([]api.Extent, uint64, api.Errno)
	Peek(off uint64, n int) ([]byte, api.Errno)
}

func newPlain(image []byte, c api.Config) *plain {
	d, _ := disk.Load(image)
	p := &plain{disk: d, config: c}
	p.start()
	return p
}

func (p *plain) start() api.Errno {
	l, _, e := label.Load(p.disk)
	if e != api.OK {
		return e
	}
	places, _ := label.Layout(l)
	var notes []api.Span
	for _, x := range places {
		notes = append(notes, x.Notes)
	}
	p.cache, _ = cache.New(p.disk, p.config.Lines, notes)
	p.volumes, p.tracks = nil, nil
	for _, x := range places {
		v, _ := volume.Open(p.cache, api.Place{Notes: x.Notes, Data: x.Data})
		t, _ := track.Open(p.cache, x)
		p.volumes, p.tracks = append(p.volumes, v), append(p.tracks, t)
	}
	p.up, p.label, p.conns, p.own = true, l, map[int]*conn.Conn{}, map[int]*overlay.Overlay{}
	return api.OK
}

// there tells the numbers of the connections that are there, rising.
func (p *plain) there() []int {
	var out []int
	for n := range p.next {
		if c := p.conns[n]; p.up && c != nil && !c.Over() {
			out = append(out, n)
		}
	}
	return out
}

func (p *plain) step(x api.Step) api.Answer {
	if x.Kind < api.SOpen || x.Kind > api.SClear {
		return api.Answer{Err: api.ErrStep}
	}
	if !p.up && x.Kind != api.SFault && x.Kind != api.SStart {
		return api.Answer{Err: api.ErrDown}
	}
	if p.up && x.Kind == api.SStart {
		return api.Answer{Err: api.ErrUp}
	}
	switch x.Kind {
	case api.SFeed, api.STake, api.SRun, api.SSend, api.SShut:
		if !slices.Contains(p.there(), x.Conn) {
			return api.Answer{Err: api.ErrConn}
		}
		return p.talk(x, p.conns[x.Conn])
	case api.SOpen:
		if len(p.there()) == p.config.Conns {
			return api.Answer{Err: api.ErrConns}
		}
		c, _ := conn.New(p.label.Exports, p.config.Limits)
		p.conns[p.next] = c
		p.next++
		return api.Answer{Conn: p.next - 1, Out: c.Out()}
	case api.SWrite:
		n, e := p.cache.Back()
		if e != api.OK {
			n = 0
		}
		return api.Answer{Err: e, N: n}
	case api.SFault:
		return api.Answer{Err: p.disk.Fault(x.Fault)}
	case api.SCrash:
		p.disk.Crash(x.Keep)
		p.up = false
		return api.Answer{}
	case api.SStart:
		return api.Answer{Err: p.start()}
	}
	if x.N < 0 || x.N >= len(p.label.Exports) || !p.label.Exports[x.N].Tracked {
		return api.Answer{Err: api.ErrStep}
	}
	moved, e := p.tracks[x.N].Clear()
	if moved {
		return api.Answer{Err: e, N: 1}
	}
	return api.Answer{Err: e}
}

// talk does a step with a connection.
func (p *plain) talk(x api.Step, c *conn.Conn) api.Answer {
	switch x.Kind {
	case api.SFeed:
		return api.Answer{N: c.Feed(x.Data)}
	case api.STake:
		took := c.Take()
		return api.Answer{Took: took, Out: c.Out()}
	case api.SRun:
		list := c.Pending()
		if x.N < 0 || x.N >= len(list) {
			return api.Answer{Err: api.ErrStep}
		}
		task, _ := c.Task(list[x.N])
		o := outcome(p.device(x.Conn), c.Session(), task.Req)
		if e := c.Finish(task.ID, o); e != api.OK {
			return api.Answer{Err: e}
		}
		return api.Answer{N: task.ID, Code: o.Code}
	case api.SSend:
		list := c.Ready()
		if x.N < 0 || x.N >= len(list) {
			return api.Answer{Err: api.ErrStep}
		}
		c.Send(list[x.N])
		return api.Answer{N: list[x.N], Out: c.Out()}
	}
	c.Shut()
	return api.Answer{}
}

// device is a connection's, or an export's if there is none of its own.
func (p *plain) device(c int) bytesOf {
	i := p.conns[c].Session().Index
	if !p.label.Exports[i].Private {
		return p.shared(i)
	}
	if p.own[c] == nil {
		p.own[c], _ = overlay.New(p.volumes[i])
	}
	return p.own[c]
}

func (p *plain) shared(export int) bytesOf {
	if p.label.Exports[export].Tracked {
		return p.tracks[export]
	}
	return p.volumes[export]
}

// outcome does a request as the chapter's table says, looking at each byte by itself.
func outcome(d bytesOf, s api.Session, q api.Request) api.Outcome {
	var o api.Outcome
	var e api.Errno
	var at uint64
	placed := true
	switch q.Type {
	case api.CmdRead:
		var b []byte
		var list []api.Extent
		b, at, e = d.Read(q.Offset, int(q.Length))
		if e == api.OK && (s.Structured || s.Extended) && q.Flags&api.FlagDF == 0 {
			if list, at, e = d.Extents(q.Offset, q.Length); e == api.OK {
				o.Pieces = byHoles(q.Offset, b, list)
			}
		} else if e == api.OK {
			o.Pieces = []api.Piece{{Off: q.Offset, Len: uint32(q.Length), Data: b}}
		}
	case api.CmdWrite:
		at, e = d.Write(q.Offset, q.Data)
	case api.CmdZeroes:
		at, e = d.Zero(q.Offset, q.Length, q.Flags&api.FlagNoHole == api.FlagNoHole)
	case api.CmdTrim:
		at, e = d.Trim(q.Offset, q.Length)
	case api.CmdFlush:
		e, placed = d.Flush(), false
	case api.CmdCache:
		at, e = d.Fetch(q.Offset, q.Length)
	case api.CmdStatus:
		var list []api.Extent
		if list, at, e = d.Extents(q.Offset, q.Length); e == api.OK {
			for _, id := range s.Contexts {
				o.Runs = append(o.Runs, byFlags(id, list))
			}
		}
	}
	changes := q.Type == api.CmdWrite || q.Type == api.CmdZeroes || q.Type == api.CmdTrim
	if e == api.OK && changes && q.Flags&api.FlagFua == api.FlagFua {
		e, placed = d.Sync(q.Offset, q.Length), false
	}
	if e != api.OK && placed {
		return api.Outcome{Code: api.EIO, Placed: true, At: at}
	}
	if e != api.OK {
		return api.Outcome{Code: api.EIO}
	}
	return o
}

// byHoles cuts bytes where a hole begins or ends.
func byHoles(off uint64, b []byte, list []api.Extent) []api.Piece {
	var out []api.Piece
	for i := range b {
		place := off + uint64(i)
		hole := extentAt(list, place).Hole
		if len(out) == 0 || out[len(out)-1].Hole != hole {
			out = append(out, api.Piece{Off: place, Hole: hole})
		}
		last := &out[len(out)-1]
		last.Len++
		if !hole {
			last.Data = append(last.Data, b[i])
		}
	}
	return out
}

// byFlags tells a context's runs.
func byFlags(id uint32, list []api.Extent) []api.StatusRun {
	var out []api.StatusRun
	end := list[len(list)-1].Off + list[len(list)-1].Len
	for place := list[0].Off; place < end; place++ {
		x, flag := extentAt(list, place), uint64(0)
		switch id {
		case 1:
			if x.Hole {
				flag = 3
			}
		case 2:
			if x.Unsaved {
				flag = 1
			}
		case 3:
			if x.Dirty {
				flag = 1
			}
		}
		if len(out) == 0 || out[len(out)-1].Flags != flag {
			out = append(out, api.StatusRun{Flags: flag})
		}
		out[len(out)-1].Len++
	}
	return out
}

func extentAt(list []api.Extent, place uint64) api.Extent {
	i := slices.IndexFunc(list, func(x api.Extent) bool { return place >= x.Off && place-x.Off < x.Len })
	return list[i]
}

func (p *plain) look() api.ServerLook {
	look := api.ServerLook{Up: p.up, Next: p.next, Queue: len(p.disk.Queue())}
	for _, n := range p.there() {
		look.Conns = append(look.Conns, api.Served{Conn: n, Look: p.conns[n].Look()})
	}
	if p.up {
		look.Lines = slices.Collect(p.cache.Lines())
	}
	return look
}

func (p *plain) labelNow() api.Label {
	if !p.up {
		return api.Label{}
	}
	return p.label
}

func (p *plain) peek(export int) ([]byte, api.Errno) {
	if !p.up {
		return nil, api.ErrDown
	}
	if export < 0 || export >= len(p.label.Exports) {
		return nil, api.ErrArg
	}
	b, _ := p.shared(export).Peek(0, 512*p.label.Exports[export].Sectors)
	return b, api.OK
}
