package cache

import (
	"slices"

	"headcount/api"
	"headcount/desc"
)

// Merge is c when it took l in.
func Merge(c api.Cache, l []api.Desc) (api.Cache, api.Errno) {
	if e := Check(c); e != api.OK {
		return api.Cache{}, e
	}
	if e := desc.Check(l); e != api.OK {
		return api.Cache{}, e
	}
	if len(c.List)+len(l) > api.MaxDescs {
		return api.Cache{}, api.ErrMany
	}
	g := growing{c}
	g.keep(c.List, l)
	return g.Cache, api.OK
}

// Offer is what c tells others: its List, and a descriptor of its own, of the Stamp now, in order.
func Offer(c api.Cache, now int) ([]api.Desc, api.Errno) {
	if e := Check(c); e != api.OK {
		return nil, e
	}
	own := []api.Desc{{Id: c.Own, Stamp: now}}
	if desc.Check(own) != api.OK {
		return nil, api.ErrArg
	}
	return desc.Order(slices.Concat(own, c.List))
}

// growing is a cache under way, whose List is chosen anew.
type growing struct {
	api.Cache
}

// keep makes the List of what the lists tell of other nodes: the best ones, as many as there is room for; none, where one may not be.
func (g *growing) keep(lists ...[]api.Desc) {
	others := slices.DeleteFunc(slices.Concat(lists...), func(d api.Desc) bool { return d.Id == g.Own })
	// With an error there are no best ones, which is what is asked for.
	best, _ := desc.Best(others)
	g.List = best[:min(len(best), g.Cap)]
}
