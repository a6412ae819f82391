package mass

import (
	"headcount/api"
	"headcount/dyad"
)

// Add is the sum of a and b, part by part.
func Add(a, b api.Mass) (api.Mass, api.Errno) {
	if anyBad(a, b) {
		return api.Mass{}, api.ErrBad
	}
	return joined(a, b, dyad.Add)
}

// Sub is a less b, part by part.
func Sub(a, b api.Mass) (api.Mass, api.Errno) {
	if anyBad(a, b) {
		return api.Mass{}, api.ErrBad
	}
	return joined(a, b, dyad.Sub)
}

// Split halves S and W: what is kept has one half of each, and all of C and A; what is sent has the other halves alone.
func Split(m api.Mass) (kept, sent api.Mass, e api.Errno) {
	if Check(m) != api.OK {
		return api.Mass{}, api.Mass{}, api.ErrBad
	}
	sent, e = halved(api.Mass{S: m.S, W: m.W})
	if e != api.OK {
		return api.Mass{}, api.Mass{}, e
	}
	kept = Twin(api.Mass{S: sent.S, W: sent.W, C: m.C, A: m.A})
	return kept, sent, api.OK
}

// Sum is the sum of all of l, from 0 on, one by one: it is ErrOver too where it leaves the room on its way alone.
func Sum(l []api.Mass) (api.Mass, api.Errno) {
	if len(l) > api.MaxSum {
		return api.Mass{}, api.ErrMany
	}
	if anyBad(l...) {
		return api.Mass{}, api.ErrBad
	}
	var total api.Mass
	for _, m := range l {
		var e api.Errno
		if total, e = joined(total, m, dyad.Add); e != api.OK {
			return api.Mass{}, e
		}
	}
	return total, api.OK
}

// joined is what do makes of each part of a and the same one of b.
func joined(a, b api.Mass, do func(x, y api.Dyad) (api.Dyad, api.Errno)) (api.Mass, api.Errno) {
	for p, q := range pairs(&a, &b) {
		out, e := do(*p, *q)
		if e != api.OK {
			return api.Mass{}, e
		}
		*p = out
	}
	return a, api.OK
}

// halved is half of each part of m.
func halved(m api.Mass) (api.Mass, api.Errno) {
	for p := range parts(&m) {
		half, e := dyad.Half(*p)
		if e != api.OK {
			return api.Mass{}, e
		}
		*p = half
	}
	return m, api.OK
}
