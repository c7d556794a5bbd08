package flight

import (
	"iter"
	"maps"
	"slices"

	"spindle/api"
)

// Get answers an entry (P13.3).
func (t *Table) Get(id int) (api.Entry, api.Errno) {
	entry, e := t.find(id)
	return copied(entry), e
}

// Pending answers the numbers of the entries that are not ready, rising (P13.3).
func (t *Table) Pending() []int { return t.numbers(false) }

// Ready answers the numbers of those that are, rising (P13.3).
func (t *Table) Ready() []int { return t.numbers(true) }

// Len tells how many entries there are (P13.3).
func (t *Table) Len() int {
	if !t.usable() {
		return 0
	}
	return len(t.entries)
}

// Full tells whether there is no room for another (P13.3).
func (t *Table) Full() bool { return t.usable() && len(t.entries) >= t.most }

// All goes through the entries by rising number (P13.3).
func (t *Table) All() iter.Seq[api.Entry] {
	return func(yield func(api.Entry) bool) {
		// Gathered only now: an iterator tells what there was when the ranging began.
		for _, entry := range t.sorted() {
			if !yield(copied(entry)) {
				return
			}
		}
	}
}

// numbers are those of the entries that are ready, or of those that are not, rising.
func (t *Table) numbers(ready bool) []int {
	var out []int
	for _, entry := range t.sorted() {
		if entry.Ready == ready {
			out = append(out, entry.ID)
		}
	}
	return out
}

// sorted gives the entries as they are kept, by rising number.
func (t *Table) sorted() []api.Entry {
	if !t.usable() {
		return nil
	}
	var out []api.Entry
	for _, id := range slices.Sorted(maps.Keys(t.entries)) {
		out = append(out, t.entries[id])
	}
	return out
}
