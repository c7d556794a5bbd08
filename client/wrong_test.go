package client_test

import (
	"reflect"
	"slices"
	"testing"

	"spindle/api"
	"spindle/client"
)

// R1: whatever bytes come and whatever is asked, every call ends and none panics; a client that has broken stays so.
func TestAnyBytes(t *testing.T) {
	d := dice(161)
	for r := range 6000 {
		c := fresh(t)
		if r%3 > 0 {
			c = working(t, forms()[r/3%3])
		}
		for range 10 {
			for range d.below(4) {
				c.Request(asking(uint16(d.below(9)), uint64(d.below(3)), uint64(d.below(40)), uint16(d.below(64))))
			}
			b := make([]byte, d.below(90))
			for i := range b {
				b[i] = pick(&d, 0, 0, 0, 1, 2, 5, byte(d.below(256)))
			}
			if len(b) > 40 {
				copy(b, pick(&d, greetingBytes(3), ackBytes(3)[:8], simpleBytes(0, 1)[:12], chunkBytes(false, 0, 1, 1, 0)[:6], chunkBytes(true, 0, 5, 1, 0)[:6], nil))
			}
			before := c.Phase()
			heard := c.In(b)
			broke := len(heard) > 0 && heard[len(heard)-1].Kind == api.EvBroken
			want(t, "broken", c.Phase() == api.ClientBroken, broke || before == api.ClientBroken)
			if before == api.ClientBroken {
				want(t, "events of a broken one", len(heard), 0)
			}
			c.Flags(uint32(d.below(5)))
			c.Option(uint32(d.below(13)), b)
			c.Info(d.bool(), api.InfoRequest{Name: string(b)})
			c.Meta(d.bool(), api.MetaRequest{Queries: []string{string(b)}})
		}
		for range c.Outstanding() {
		}
	}
}

// R1: requests at the ends of what numbers can tell.
func TestAnyRequests(t *testing.T) {
	ends := []uint64{0, 1, max32, max32 + 1, 1 << 40, 1<<63 - 1, 1 << 63, max64}
	for _, f := range forms() {
		c := working(t, f)
		for _, kind := range commands() {
			for _, off := range ends {
				for _, n := range ends {
					_, cookie, e := c.Request(asking(kind, off, n))
					want(t, "a cookie", cookie > 0, e == api.OK)
				}
			}
		}
		for o := range c.Outstanding() {
			if o.Type == api.CmdRead || !f.chunks {
				continue
			}
			body := f.chunk(1, api.ChunkErrorAt, o.Cookie, o.Offset, errorAtBody(5, "", o.Offset)...)
			if o.Length == 0 {
				body = f.chunk(1, api.ChunkError, o.Cookie, o.Offset, errorBody(5, "")...)
			}
			wantEvents(t, "an error", c.In(body), done(o.Cookie, 5))
		}
	}
}

// The face is fixed.
func TestFace(t *testing.T) {
	var names []string
	kind := reflect.TypeOf(&client.Client{})
	for i := range kind.NumMethod() {
		names = append(names, kind.Method(i).Name)
	}
	faces := []string{"Flags", "In", "Info", "Meta", "Option", "Outstanding", "Phase", "Request"}
	if !slices.Equal(names, faces) {
		t.Errorf("methods %v, want %v", names, faces)
	}
	for i := range kind.Elem().NumField() {
		want(t, "an exported field", kind.Elem().Field(i).IsExported(), false)
	}
}
