package desc

import (
	"slices"

	"headcount/api"
)

// Order is l in order, the freshest one first.
func Order(l []api.Desc) ([]api.Desc, api.Errno) {
	if e := Check(l); e != api.OK {
		return nil, e
	}
	var r row
	each(l, r.put)
	return r.list, api.OK
}

// Best is the freshest descriptor of each node that l tells of, in order.
func Best(l []api.Desc) ([]api.Desc, api.Errno) {
	ordered, e := Order(l)
	if e != api.OK {
		return nil, e
	}
	var there [api.MaxNodes]bool
	var best []api.Desc
	each(ordered, func(d api.Desc) {
		// In order, a node's first one is its freshest.
		if !there[d.Id] {
			there[d.Id] = true
			best = append(best, d)
		}
	})
	return best, api.OK
}

// row is descriptors in order, to which others come.
type row struct {
	list []api.Desc
}

// put lays d ahead of the first one that it is fresher than.
func (r *row) put(d api.Desc) {
	at := slices.IndexFunc(r.list, func(other api.Desc) bool { return fresher(d, other) })
	if at < 0 {
		at = len(r.list)
	}
	r.list = slices.Insert(r.list, at, d)
}

// each does something with each of l, in order of their places.
func each(l []api.Desc, do func(d api.Desc)) {
	for _, d := range l {
		do(d)
	}
}
