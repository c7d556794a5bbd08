package judge_test

import (
	"bytes"
	"slices"

	"spindle/api"
)

// What follows is a plain reading of the chapter: sentence by sentence, with no thought of how long it takes.

// plainMay: "An operation may be (for a device), if".
func plainMay(size int, op api.Op) bool {
	if op.Kind != api.OpRead && op.Kind != api.OpWrite && op.Kind != api.OpZero && op.Kind != api.OpFlush {
		return false
	}
	if op.From < 0 {
		return false
	}
	if op.To != -1 && op.To < op.From {
		return false
	}
	if op.Off < 0 || op.Len < 0 || op.Off > size || op.Len > size-op.Off {
		return false
	}
	data := 0
	if op.Kind == api.OpWrite || op.Kind == api.OpRead && op.To != -1 {
		data = op.Len
	}
	if len(op.Data) != data {
		return false
	}
	if op.Kind == api.OpFlush && (op.Off != 0 || op.Len != 0) {
		return false
	}
	return !op.Sync || op.To != -1 && op.Kind != api.OpRead
}

// plainBefore: "a is before b, if a was answered and a.To is below b.From".
func plainBefore(a, b api.Op) bool { return a.To != -1 && a.To < b.From }

// plainPlayed plays operations on a copy of the device; false, if one of them is a read that was answered and tells other bytes.
func plainPlayed(first []byte, ops []api.Op, order []int) ([]byte, bool) {
	now := slices.Clone(first)
	for _, n := range order {
		op := ops[n]
		there := now[op.Off : op.Off+op.Len]
		switch {
		case op.Kind == api.OpWrite:
			copy(there, op.Data)
		case op.Kind == api.OpZero:
			copy(there, make([]byte, op.Len))
		case op.Kind == api.OpRead && op.To != -1 && !bytes.Equal(there, op.Data):
			return nil, false
		}
	}
	return now, true
}

// plainRight: "It is right, if".
func plainRight(first []byte, ops []api.Op, order []int) bool {
	for i, n := range order {
		if n < 0 || n >= len(ops) || slices.Contains(order[:i], n) {
			return false
		}
	}
	for n, op := range ops {
		if op.To != -1 && !slices.Contains(order, n) {
			return false
		}
	}
	for i, ahead := range order {
		for _, behind := range order[i+1:] {
			if plainBefore(ops[behind], ops[ahead]) {
				return false
			}
		}
	}
	_, tells := plainPlayed(first, ops, order)
	return tells
}

// plainWrong: the place at which P17.2 finds an order wrong; -1, if none.
func plainWrong(first []byte, ops []api.Op, order []int) int {
	for place, n := range order {
		if n < 0 || n >= len(ops) || slices.Contains(order[:place], n) {
			return place
		}
		for i, op := range ops {
			if plainBefore(op, ops[n]) && !slices.Contains(order[:place], i) {
				return place
			}
		}
		if _, tells := plainPlayed(first, ops, order[:place+1]); !tells {
			return place
		}
	}
	for i, op := range ops {
		if op.To != -1 && !slices.Contains(order, i) {
			return len(order)
		}
	}
	return -1
}

// plainRefused: P17.1.
func plainRefused(first []byte, ops []api.Op, most int) api.Errno {
	if len(first) > 4096 || len(ops) > most {
		return api.ErrMany
	}
	for _, op := range ops {
		if !plainMay(len(first), op) {
			return api.ErrOp
		}
	}
	return api.OK
}

const boundless = 1 << 40

// plainFollow: P17.2.
func plainFollow(c call) ([]byte, int, api.Errno) {
	if e := plainRefused(c.first, c.ops, boundless); e != api.OK {
		return nil, 0, e
	}
	if at := plainWrong(c.first, c.ops, c.order); at >= 0 {
		return nil, at, api.ErrOrder
	}
	now, _ := plainPlayed(c.first, c.ops, c.order)
	return now, 0, api.OK
}

// plainOrders tells every list of numbers below n in which none stands twice, in the order of P17.3, until told to stop.
func plainOrders(n int, begins []int, tell func([]int) bool) bool {
	if !tell(begins) {
		return false
	}
	for i := range n {
		if !slices.Contains(begins, i) && !plainOrders(n, append(slices.Clone(begins), i), tell) {
			return false
		}
	}
	return true
}

// plainOrder: P17.3, by trying all orders.
func plainOrder(c call) (found []int, some bool, e api.Errno) {
	if e := plainRefused(c.first, c.ops, 10); e != api.OK {
		return nil, false, e
	}
	plainOrders(len(c.ops), nil, func(order []int) bool {
		if plainRight(c.first, c.ops, order) {
			found, some = order, true
		}
		return !some
	})
	return found, some, api.OK
}

// grown is P17.3 for longer lists: what is wrong at its last place is not gone on with. now: the device behind what it begins with.
func grown(c call, begins []int, now []byte) ([]int, bool) {
	lacks := func(who func(api.Op) bool) bool {
		for i, op := range c.ops {
			if who(op) && !slices.Contains(begins, i) {
				return true
			}
		}
		return false
	}
	if !lacks(func(op api.Op) bool { return op.To != -1 }) {
		return begins, true
	}
	for i := range c.ops {
		if slices.Contains(begins, i) || lacks(func(op api.Op) bool { return plainBefore(op, c.ops[i]) }) {
			continue
		}
		next, tells := plainPlayed(now, c.ops, []int{i})
		if !tells {
			continue
		}
		if found, some := grown(c, append(slices.Clone(begins), i), next); some {
			return found, true
		}
	}
	return nil, false
}

// cut is a sector of some bytes.
func cut(b []byte, k int) []byte { return b[512*k : min(512*k+512, len(b))] }

// inSector tells whether an operation has a byte in the sector.
func inSector(op api.Op, k int) bool {
	for i := range op.Len {
		if (op.Off+i)/512 == k {
			return true
		}
	}
	return false
}

// plainFloor: "The floor of a sector is the least k for which".
func plainFloor(ops []api.Op, order []int, sector int) int {
	for k := 0; ; k++ {
		lacks := false
		for n, op := range ops {
			if op.Sync && (op.Kind == api.OpFlush || inSector(op, sector)) && !slices.Contains(order[:k], n) {
				lacks = true
			}
		}
		if !lacks {
			return k
		}
	}
}

// plainSurvives: P17.4.
func plainSurvives(c call) (int, bool, api.Errno) {
	if e := plainRefused(c.first, c.ops, boundless); e != api.OK {
		return 0, false, e
	}
	if !plainRight(c.first, c.ops, c.order) || len(c.after) != len(c.first) {
		return 0, false, api.ErrOrder
	}
	for sector := 0; 512*sector < len(c.first); sector++ {
		may := false
		for k := plainFloor(c.ops, c.order, sector); k <= len(c.order); k++ {
			now, _ := plainPlayed(c.first, c.ops, c.order[:k])
			may = may || bytes.Equal(cut(now, sector), cut(c.after, sector))
		}
		if !may {
			return sector, false, api.OK
		}
	}
	return 0, true, api.OK
}
