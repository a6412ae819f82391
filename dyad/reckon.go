package dyad

import (
	"headcount/api"
	"headcount/limb"
)

// Add is the exact sum of a and b.
func Add(a, b api.Dyad) (api.Dyad, api.Errno) {
	return sum(a, b, signs(false))
}

// Sub is exactly a less b.
func Sub(a, b api.Dyad) (api.Dyad, api.Errno) {
	return sum(a, b, signs(true))
}

// Half is exactly half of a.
func Half(a api.Dyad) (api.Dyad, api.Errno) {
	if anyBad(a) {
		return api.Dyad{}, api.ErrBad
	}
	w, _ := widened(a, a.Exp)
	w.Exp++
	return w.settled()
}

// wide is a number under way: its Limbs are the digits above its last one.
// So it has room for a digit more than a dyad: what does not fit on the way may fit when it is in its one form, or less the other number.
type wide struct {
	api.Dyad
	last uint32
}

// signs tells a number's sign, turned or as it is.
func signs(turned bool) func(neg bool) bool {
	return func(neg bool) bool { return neg != turned }
}

// sum is a and b, with b's sign as it is told.
func sum(a, b api.Dyad, sign func(neg bool) bool) (api.Dyad, api.Errno) {
	if anyBad(a, b) {
		return api.Dyad{}, api.ErrBad
	}
	exp := max(a.Exp, b.Exp)
	x, e := widened(a, exp)
	if e != api.OK {
		return api.Dyad{}, e
	}
	y, e := widened(b, exp)
	if e != api.OK {
		return api.Dyad{}, e
	}
	y.Neg = sign(y.Neg)
	out, e := x.plus(y)
	if e != api.OK {
		return api.Dyad{}, e
	}
	return out.settled()
}

// widened is a with the Exp exp, which is not below its own.
// It is ErrOver just if a is at least twice what Limbs can be: then no sum with a number of that Exp has room either, and, as one of the two is odd, none gets a lower Exp.
func widened(a api.Dyad, exp int) (wide, api.Errno) {
	out := wide{Dyad: api.Dyad{Neg: a.Neg, Exp: exp}}
	var e api.Errno
	if exp > a.Exp {
		out.Limbs, e = limb.Left(a.Limbs, exp-a.Exp-1)
	} else {
		out.Limbs, e = limb.Right(a.Limbs, 1)
		out.last = lowest(a.Limbs)
	}
	return out, e
}

// plus is the sum of two numbers of the same Exp.
func (a wide) plus(b wide) (wide, api.Errno) {
	var e api.Errno
	out := wide{api.Dyad{Neg: a.Neg, Exp: a.Exp}, a.last ^ b.last}
	if a.Neg != b.Neg {
		goto unlike
	}
	out.Limbs, e = limb.Add(a.Limbs, b.Limbs)
	if e == api.OK {
		out.Limbs, e = limb.Add(out.Limbs, limb.Of(uint64(a.last&b.last)))
	}
	return out, e

unlike:
	if a.smaller(b) {
		a, b = b, a
		out.Neg = a.Neg
	}
	out.Limbs, _ = limb.Sub(a.Limbs, b.Limbs)
	out.Limbs, _ = limb.Sub(out.Limbs, limb.Of(uint64(b.last&^a.last)))
	return out, api.OK
}

// smaller tells whether a is nearer to 0 than b.
func (a wide) smaller(b wide) bool {
	n, _ := limb.Cmp(a.Limbs, b.Limbs)
	return n < 0 || n == 0 && a.last < b.last
}

// settled is the number in its one form.
func (a wide) settled() (api.Dyad, api.Errno) {
	if a.Exp > 0 && a.last == 0 {
		a.lessen()
	} else if e := a.takeLast(); e != api.OK {
		return api.Dyad{}, e
	}
	if len(a.Limbs) == 0 {
		return api.Dyad{}, api.OK
	}
	if a.Exp > api.MaxExp {
		return api.Dyad{}, api.ErrOver
	}
	return a.Dyad, api.OK
}

// lessen leaves out the last digit, and all that are 0 above it, while Exp tells of them.
func (a *wide) lessen() {
	low, _ := limb.Low(a.Limbs)
	k := min(low, a.Exp-1)
	a.Limbs, _ = limb.Right(a.Limbs, k)
	a.Exp -= k + 1
}

// takeLast puts the last digit beneath the others.
func (a *wide) takeLast() api.Errno {
	up, e := limb.Left(a.Limbs, 1)
	if e == api.OK {
		a.Limbs, e = limb.Add(up, limb.Of(uint64(a.last)))
	}
	return e
}
