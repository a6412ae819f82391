package choose

import "headcount/api"

// left is the neighbours that were not chosen yet, in the order of the cache. It may be a part of the cache's own List, so it is only read.
type left []api.Desc

// place is that of the neighbour of a draw; there must be one.
func (l left) place(draw uint64) int {
	return int(draw % uint64(len(l)))
}

// each yields those that are left, with their places.
func (l left) each(yield func(at int, d api.Desc) bool) {
	for at, d := range l {
		if !yield(at, d) {
			return
		}
	}
}

// without is those that are left when the one of a place was chosen.
func (l left) without(at int) left {
	// What stands ahead has no room behind it, so that those behind go to new memory, not into the cache's.
	return append(l[:at:at], l[at+1:]...)
}
