package flight

import (
	"slices"

	"headcount/api"
)

// fate is what happens to a copy.
type fate uint8

const (
	doubled fate = iota
	lost
	landed
)

// turned is l behind a copy's fate, and the load that comes down by it, if one does. A copy of a Number that has no load carries nothing.
func turned(l []api.Load, number int, f fate) (out []api.Load, down api.Load, e api.Errno) {
	at, there, e := numbers(l)(number)
	if e != api.OK {
		return nil, api.Load{}, e
	}
	if !there {
		return Twin(l), api.Load{}, api.OK
	}
	left, down, e := become(l[at], f)
	if e != api.OK {
		return nil, api.Load{}, e
	}
	return with(l, at, at+1, left...), twin(down), api.OK
}

// become is what is left of a load behind a copy's fate, and the load that comes down by it.
func become(load api.Load, f fate) (left []api.Load, down api.Load, e api.Errno) {
	switch f {
	case doubled:
		if load.Copies == api.MaxFly {
			return nil, api.Load{}, api.ErrFull
		}
		load.Copies++
	case lost:
		if load.Copies > 1 {
			load.Copies--
			break
		}
		// None landed, and none is left that could: the last copy takes all along, as one that lands does.
		fallthrough
	case landed:
		return nil, load, api.OK
	}
	return []api.Load{load}, api.Load{}, api.OK
}

// with is l, others standing in the places from low to below high, all in new memory.
func with(l []api.Load, low, high int, others ...api.Load) []api.Load {
	return Twin(slices.Concat(l[:low], others, l[high:]))
}
