package server

import (
	"sync"

	"spindle/api"
	"spindle/conn"
	"spindle/overlay"
)

// served is a connection that is there.
type served struct {
	number  int
	peer    *conn.Conn
	machine *machine
	own     *overlay.Overlay // of a private export, from its first task on
}

// feed lets bytes arrive (P15.5).
func (c *served) feed(x api.Step) api.Answer { return api.Answer{N: c.peer.Feed(x.Data)} }

// take takes one message (P15.5).
func (c *served) take(api.Step) api.Answer {
	took := c.peer.Take()
	return api.Answer{Took: took, Out: c.peer.Out()}
}

// run does one of the pending tasks (P15.6).
func (c *served) run(x api.Step) api.Answer {
	pending := c.peer.Pending()
	if x.N < 0 || x.N >= len(pending) {
		return refused(api.ErrStep)
	}
	task, _ := c.peer.Task(pending[x.N])
	outcome := do(c.device(), c.peer.Session(), task.Req)
	c.peer.Finish(task.ID, outcome)
	return api.Answer{N: task.ID, Code: outcome.Code}
}

// send lets one of the ready answers leave (P15.7).
func (c *served) send(x api.Step) api.Answer {
	ready := c.peer.Ready()
	if x.N < 0 || x.N >= len(ready) {
		return refused(api.ErrStep)
	}
	c.peer.Send(ready[x.N])
	return api.Answer{N: ready[x.N], Out: c.peer.Out()}
}

// shut cuts it (P15.7).
func (c *served) shut(api.Step) api.Answer {
	c.peer.Shut()
	return api.Answer{}
}

// device gives what the tasks are done against; it is asked for by a task alone, so that an export has been agreed upon.
func (c *served) device() device {
	i := c.peer.Session().Index
	if !c.machine.label.Exports[i].Private {
		return c.machine.stores[i].device()
	}
	if c.own == nil {
		c.own, _ = overlay.New(c.machine.stores[i].volume)
	}
	return c.own
}

// tasks tells how many tasks there are, done or not.
func (c *served) tasks() int { return len(c.peer.Pending()) + len(c.peer.Ready()) }

// cut cuts connections, each by a goroutine of its own, and tells how many tasks each of them had: these are never answered.
func cut(conns []*served) []int {
	lost := make([]int, len(conns))
	var all sync.WaitGroup
	for i, c := range conns {
		all.Add(1)
		go func() {
			defer all.Done()
			lost[i] = c.tasks()
			c.peer.Shut()
		}()
	}
	all.Wait()
	return lost
}
