package recent

import "iter"

// Oldest tells the oldest key without a pin (P4.5).
func (o *Order[K]) Oldest() (K, bool) {
	var oldest K
	found := false
	o.walk(func(p *place[K]) bool {
		if p.free() {
			oldest, found = p.key, true
		}
		return !found
	})
	return oldest, found
}

// All gives all keys to range over, oldest first (P4.6).
func (o *Order[K]) All() iter.Seq[K] {
	return o.told(func(*place[K]) bool { return true })
}

// Free gives those without a pin to range over, oldest first (P4.6).
func (o *Order[K]) Free() iter.Seq[K] {
	return o.told(func(p *place[K]) bool { return p.free() })
}

// told gives the keys of the picked places. They are gathered when a ranging begins, since its body may change the row.
func (o *Order[K]) told(pick func(*place[K]) bool) iter.Seq[K] {
	return func(yield func(K) bool) {
		var keys []K
		o.walk(func(p *place[K]) bool {
			if pick(p) {
				keys = append(keys, p.key)
			}
			return true
		})
		for _, k := range keys {
			if !yield(k) {
				return
			}
		}
	}
}

// walk goes through the places, oldest first, until it is told to stop.
func (o *Order[K]) walk(each func(*place[K]) bool) {
	if !o.usable() {
		return
	}
	for p := o.gap.newer; p != o.gap && each(p); p = p.newer {
	}
}
