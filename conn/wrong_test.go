package conn_test

import (
	"reflect"
	"slices"
	"testing"

	"spindle/api"
	"spindle/conn"
)

// R1: a connection that no call made, nil or zero: ErrNil, and zeros besides; nothing changes it.
func TestNoConnection(t *testing.T) {
	var zero conn.Conn
	for name, c := range map[string]*conn.Conn{"nil": nil, "zero": &zero} {
		for range 2 {
			for _, b := range [][]byte{nil, {}, flagBytes(3), goTo("a"), many(5000)} {
				want(t, name+": Feed", c.Feed(b), 0)
			}
			wantTook(t, name+": Take", c.Take(), api.Took{})
			for _, id := range append(never, 1, 2) {
				task, e := c.Task(id)
				want(t, name+": Task", e, api.ErrNil)
				wantSame(t, name+": Task", task, api.Task{})
				for _, o := range []api.Outcome{{}, {Code: 5}, {Placed: true}, well(api.Session{}, read(1, 0, 5))} {
					want(t, name+": Finish", c.Finish(id, o), api.ErrNil)
				}
				want(t, name+": Send", c.Send(id), api.ErrNil)
			}
			wantBytes(t, name+": Out", c.Out(), nil)
			wantNumbers(t, name+": Pending", c.Pending())
			wantNumbers(t, name+": Ready", c.Ready())
			wantSame(t, name+": Session", c.Session(), api.Session{})
			want(t, name+": Over", c.Over(), false)
			wantLook(t, name, c, api.ConnLook{})
			c.Shut()
			want(t, name+": Over behind Shut", c.Over(), false)
			wantLook(t, name+" behind Shut", c, api.ConnLook{})
		}
	}
	want(t, "the zero one", zero, conn.Conn{})
}

// R1: whatever bytes come, and whatever is asked, every call ends and none panics.
func TestAnyBytes(t *testing.T) {
	d := dice(141)
	for run := range 3000 {
		var c *conn.Conn
		if run%2 == 0 {
			c = fresh(t, several(), thrownLimits(&d))
		} else {
			c = working(t, several(), wide(3), forms()[run/2%5], "first")
		}
		for range 12 {
			b := make([]byte, d.below(120))
			for i := range b {
				b[i] = pick(&d, 0, 0, 0, 1, 3, byte(d.below(256)))
			}
			if d.bool() && len(b) > 40 {
				copy(b, pick(&d, []byte("IHAVEOPT"), requestBytes(read(0, 0, 0), false)[:4], requestBytes(read(0, 0, 0), true)[:4], flagBytes(3)))
			}
			c.Feed(b)
			c.Take()
			id := d.below(5) - 1
			c.Task(id)
			c.Finish(id, thrownOutcome(&d, c.Session(), read(0, uint64(d.below(3)), uint64(d.below(100)))))
			c.Send(id)
			c.Look()
		}
		c.Out()
	}
}

// The face is fixed: a connection gives out nothing of its inbox and of its table.
func TestFace(t *testing.T) {
	var names []string
	kind := reflect.TypeOf(&conn.Conn{})
	for i := range kind.NumMethod() {
		names = append(names, kind.Method(i).Name)
	}
	faces := []string{"Feed", "Finish", "Look", "Out", "Over", "Pending", "Ready", "Send", "Session", "Shut", "Take", "Task"}
	if !slices.Equal(names, faces) {
		t.Errorf("methods %v, want %v", names, faces)
	}
	for i := range kind.Elem().NumField() {
		want(t, "an exported field", kind.Elem().Field(i).IsExported(), false)
	}
}

// R5: the same calls give the same answers, however often they are made.
func TestAgain(t *testing.T) {
	var first string
	for range 30 {
		d := dice(5)
		x := newPair(t, several(), wide(5))
		x.begin(forms()[4], "first")
		var said []byte
		all := ""
		for range 200 {
			said = x.step(&d, said)
			all += told(x.c.Look())
		}
		if first == "" {
			first = all
		}
		want(t, "told again", all == first, true)
	}
}
