package judge

import (
	"bytes"

	"spindle/api"
)

// device is the bytes of the device at some moment.
type device []byte

// fits tells whether an operation that is done now has the answer that it has.
func (d device) fits(op api.Op) bool {
	return op.Kind != api.OpRead || !answered(op) || bytes.Equal(d[op.Off:op.Off+op.Len], op.Data)
}

func (d device) play(op api.Op) {
	switch op.Kind {
	case api.OpWrite:
		copy(d[op.Off:], op.Data)
	case api.OpZero:
		clear(d[op.Off : op.Off+op.Len])
	}
}

func (d device) sectors() int { return (len(d) + api.SectorSize - 1) / api.SectorSize }

func (d device) sector(k int) []byte {
	return d[k*api.SectorSize : min((k+1)*api.SectorSize, len(d))]
}

// reach tells the sectors, from lo on and below hi, that an operation looks at, changes or makes safe.
func (d device) reach(op api.Op) (lo, hi int) {
	switch {
	case op.Kind == api.OpFlush:
		return 0, d.sectors()
	case op.Len == 0:
		return 0, 0
	}
	return op.Off / api.SectorSize, (op.Off+op.Len-1)/api.SectorSize + 1
}
