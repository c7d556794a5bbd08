package server_test

import (
	"fmt"
	"slices"
	"strings"
	"testing"

	"spindle/api"
	"spindle/disk"
	"spindle/label"
	"spindle/server"
)

// P15.1: sectors that no disk has come first, then labels that may not be, or that the disk has no room for.
func TestFormatRefusals(t *testing.T) {
	wrong := api.Label{Exports: []api.Export{{Name: "a"}}}
	for _, c := range []struct {
		sectors int
		l       api.Label
		e       api.Errno
	}{
		{0, api.Label{Exports: one()}, api.ErrSectors},
		{-1, api.Label{Exports: one()}, api.ErrSectors},
		{-1 << 63, api.Label{Exports: one()}, api.ErrSectors},
		{api.MaxSectors + 1, api.Label{Exports: one()}, api.ErrSectors},
		{0, wrong, api.ErrSectors},
		{60, wrong, api.ErrLabel},
		{60, api.Label{}, api.ErrLabel},
		{1, api.Label{}, api.ErrLabel},
		{60, api.Label{Exports: append(one(), one()...)}, api.ErrLabel},
		{60, api.Label{Exports: []api.Export{export("a", api.MaxSectors)}}, api.ErrLabel},
		{1, api.Label{Exports: one()}, api.ErrSmall},
		{41, api.Label{Exports: one()}, api.ErrSmall},
		{50, api.Label{Exports: one()}, api.ErrSmall},
	} {
		image, e := server.Format(c.sectors, c.l)
		want(t, fmt.Sprint("Format of ", c.sectors), e, c.e)
		want(t, "no bytes", len(image), 0)
	}
}

// P15.1: a disk's safe bytes are the label's alone, whole, and so many as there are sectors.
func TestFormat(t *testing.T) {
	for _, sectors := range []int{51, 60, 1000, api.MaxSectors} {
		image := formatted(t, sectors, one())
		want(t, "bytes", len(image), 512*sectors)
		d, _ := disk.Load(image)
		l, seq, e := label.Load(d)
		want(t, "the label", e, api.OK)
		want(t, "its number", seq, 1)
		wantSame(t, "the label", l, api.Label{Exports: one()})
		wantBytes(t, "what lies behind the label", image[42*512:], make([]byte, 512*(sectors-42)))
	}
	biggest := []api.Export{export("a", api.MaxSectors-42-16)}
	want(t, "the biggest export", len(formatted(t, api.MaxSectors, biggest)), 512*api.MaxSectors)
	most := make([]api.Export, api.MaxExports)
	for i := range most {
		most[i] = export(strings.Repeat("n", 255)+string(rune('a'+i)), 1)
		most[i].Desc = strings.Repeat("d", 256)
	}
	s := started(t, formatted(t, 42+32, most), example())
	wantSame(t, "as many exports as may be", s.Label(), api.Label{Exports: most})
	last := peeked(t, s, api.MaxExports-1)
	wantBytes(t, "the last one", last, make([]byte, 512))
	_, e := s.Peek(api.MaxExports)
	want(t, "Peek behind it", e, api.ErrArg)
}

// R4: the label that is handed in is not changed and not kept; what is answered is new memory.
func TestFormatMemory(t *testing.T) {
	handed := roomy(several(), export("spare", 1))
	before := slices.Clone(whole(handed))
	first := formatted(t, diskSectors, handed)
	second := formatted(t, diskSectors, several())
	wantSame(t, "the exports", whole(handed), before)
	spoil(handed, api.Export{Name: "spoilt"})
	wantBytes(t, "formatted again", first, second)
	spoil(first, 0xee)
	wantBytes(t, "and not shared", formatted(t, diskSectors, several()), second)
}

// P15.2: each field of the configuration at its bounds, and one past them.
func TestConfigBounds(t *testing.T) {
	image := formatted(t, 60, one())
	for _, c := range []struct {
		name        string
		set         func(c *api.Config, n int)
		least, most int
	}{
		{"Lines", func(c *api.Config, n int) { c.Lines = n }, 1, api.MaxLines},
		{"Conns", func(c *api.Config, n int) { c.Conns = n }, 1, api.MaxConns},
		{"Payload", func(c *api.Config, n int) { c.Limits.Payload = uint32(n) }, api.MinPayload, api.MaxPayload},
		{"Option", func(c *api.Config, n int) { c.Limits.Option = uint32(n) }, api.MinOption, api.MaxOption},
		{"Flight", func(c *api.Config, n int) { c.Limits.Flight = n }, 1, api.MaxFlight},
	} {
		for _, n := range []int{c.least, c.least + 1, c.most - 1, c.most} {
			x := example()
			c.set(&x, n)
			s, e := server.New(image, x)
			want(t, fmt.Sprint(c.name, " ", n), e, api.OK)
			want(t, fmt.Sprint(c.name, " ", n, ": up"), s.Up(), true)
		}
		wrong := []int{0, c.least - 1, c.most + 1, max32}
		if c.name == "Lines" || c.name == "Conns" || c.name == "Flight" {
			wrong = append(wrong, -1, -1<<63, 1<<63-1, max32+2)
		}
		for _, n := range wrong {
			x := example()
			c.set(&x, n)
			wantNoServer(t, fmt.Sprint(c.name, " ", n), image, x, api.ErrConfig)
			wantNoServer(t, fmt.Sprint(c.name, " ", n, ", no disk"), nil, x, api.ErrConfig)
		}
	}
	wantNoServer(t, "no configuration", image, api.Config{}, api.ErrConfig)
}

func wantNoServer(t *testing.T, what string, image []byte, c api.Config, e api.Errno) {
	t.Helper()
	s, got := server.New(image, c)
	want(t, what, got, e)
	want(t, what+": no server", s, nil)
}

// P15.2: images that no disk has, that have no label, a spoilt one, one that says more sectors than there are.
func TestImages(t *testing.T) {
	good := formatted(t, 60, one())
	for name, c := range map[string]struct {
		image []byte
		e     api.Errno
	}{
		"none":                   {nil, api.ErrSectors},
		"empty":                  {[]byte{}, api.ErrSectors},
		"a byte":                 {good[:1], api.ErrSectors},
		"a byte too few":         {good[:60*512-1], api.ErrSectors},
		"too many sectors":       {make([]byte, 512*(api.MaxSectors+1)), api.ErrSectors},
		"zeros":                  {make([]byte, 512*60), api.ErrNone},
		"too few for a label":    {good[:41*512], api.ErrNone},
		"the head is spoilt":     {turned(good, 100), api.ErrNone},
		"the body is spoilt":     {turned(good, 2*512), api.ErrSpoilt},
		"the body's end is":      {turned(good, 22*512-1), api.ErrSpoilt},
		"too few for the export": {good[:50*512], api.ErrSmall},
	} {
		wantNoServer(t, name, c.image, example(), c.e)
	}
	for name, image := range map[string][]byte{"just enough": good[:51*512], "the other body is other": turned(good, 22*512)} {
		_, e := server.New(image, example())
		want(t, name, e, api.OK)
	}
}

// turned gives the same bytes with one that is another.
func turned(b []byte, at int) []byte {
	b = slices.Clone(b)
	b[at] ^= 0x10
	return b
}

// P15.2: a new server is up, has no connections, no lines and no writes that wait; its first connection has the number 0. Nothing was written.
func TestNew(t *testing.T) {
	for _, image := range [][]byte{formatted(t, 60, one()), filled(t)} {
		s := started(t, image, example())
		want(t, "Up", s.Up(), true)
		wantSame(t, "Look", s.Look(), api.ServerLook{Up: true})
		wantBytes(t, "Image", s.Image(), image)
		want(t, "writes that wait", len(s.Queue()), 0)
		wantAnswer(t, "the first connection", s.Step(opens()), api.Answer{Conn: 0, Out: greeting()})
	}
	wantSame(t, "Label", started(t, filled(t), example()).Label(), api.Label{Exports: several()})
}
