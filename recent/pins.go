package recent

import "spindle/api"

// Pin pins a key once more (P4.4).
func (o *Order[K]) Pin(k K) bool {
	p, _ := o.find(k)
	if p == nil || p.pins >= api.MaxPins {
		return false
	}
	p.pins++
	return true
}

// Unpin takes one pin away (P4.4).
func (o *Order[K]) Unpin(k K) bool {
	p, _ := o.find(k)
	if p == nil || p.free() {
		return false
	}
	p.pins--
	return true
}

// Pins tells how often a key is pinned (P4.4).
func (o *Order[K]) Pins(k K) int {
	p, _ := o.find(k)
	if p == nil {
		return 0
	}
	return p.pins
}
