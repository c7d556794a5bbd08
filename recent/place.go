package recent

// place is where a key stands in the row.
type place[K comparable] struct {
	key   K
	pins  int
	older *place[K]
	newer *place[K]
}

func (p *place[K]) free() bool { return p.pins == 0 }

// enter makes the place the newest of the ring that has this gap.
func (p *place[K]) enter(gap *place[K]) {
	p.older, p.newer = gap.older, gap
	p.older.newer, gap.older = p, p
}

// leave closes the ring behind the place.
func (p *place[K]) leave() {
	p.older.newer, p.newer.older = p.newer, p.older
}
