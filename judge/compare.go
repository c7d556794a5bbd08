package judge

import (
	"bytes"

	"spindle/api"
)

// comparison holds what is there behind a crash against what was there ahead of it.
type comparison struct {
	after device
	may   []bool // a sector each: was it so since its floor
}

func compareWith(after, first device) *comparison {
	c := &comparison{after: after, may: make([]bool, after.sectors())}
	for k := range c.may {
		c.may[k] = c.same(first, k)
	}
	return c
}

func (c *comparison) same(now device, k int) bool {
	return bytes.Equal(now.sector(k), c.after.sector(k))
}

// see looks at the device behind an operation. One with Sync raises the floor of its sectors: what they were ahead of it counts no more.
func (c *comparison) see(now device, op api.Op) {
	lo, hi := now.reach(op)
	for k := lo; k < hi; k++ {
		c.may[k] = c.may[k] && !op.Sync || c.same(now, k)
	}
}

// verdict tells the first sector that may not be, and false; or 0 and true.
func (c *comparison) verdict() (int, bool) {
	for k, may := range c.may {
		if !may {
			return k, false
		}
	}
	return 0, true
}
