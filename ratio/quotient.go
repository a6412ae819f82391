package ratio

import (
	"iter"
	"math/bits"

	"headcount/api"
	"headcount/dyad"
	"headcount/limb"
)

const (
	limbBits = 32
	maxBits  = limbBits * api.MaxLimbs
)

// quotient is one without its sign: its whole part and so many parts of 2^-k. Behind these there is half a part, or not, and then something more, or not.
type quotient struct {
	whole      api.Dyad
	parts      uint64
	k          int
	half, more bool
}

// divide is a / b, without the sign that a has. It is ErrOver where the whole part alone has no room: a dyad so great may not be, whatever its parts.
// Where the first digit is behind the last one asked for, there are none, and all of a is left.
func divide(a, b api.Dyad, k int) (quotient, api.Errno) {
	q := quotient{k: k}
	first, last := top(a)-top(b), -k-1
	n := place(a.Limbs, b.Exp-a.Exp-first-1)
	var whole [api.MaxLimbs]uint32
	for i, digit := range digits(n.next, b.Limbs, first, last) {
		switch {
		case i >= maxBits:
			if digit > 0 {
				return quotient{}, api.ErrOver
			}
		case i >= 0:
			whole[i/limbBits] |= digit << (i % limbBits)
		case i > last:
			q.parts = q.parts<<1 | uint64(digit)
		default:
			q.half = digit > 0
		}
	}
	q.more = n != number{}
	q.whole = api.Dyad{Limbs: cut(whole[:])}
	return q, api.OK
}

// top is the place of a's highest digit: 0 is that of the ones.
func top(a api.Dyad) int {
	n, _ := limb.Bits(a.Limbs)
	return n - 1 - a.Exp
}

// digits tells the quotient's digits with their places, from the highest one down.
func digits(next func(b []uint32) uint32, b []uint32, first, last int) iter.Seq2[int, uint32] {
	return func(yield func(int, uint32) bool) {
		for i := first; i >= last; i-- {
			if !yield(i, next(b)) {
				return
			}
		}
	}
}

// addPart goes a part on. All parts together are a whole; for k 64 they wrap round to 0, which is what 1 << 64 is too.
func (q *quotient) addPart() (e api.Errno) {
	q.parts++
	if q.parts == 1<<q.k {
		q.parts = 0
		q.whole, e = dyad.Add(q.whole, dyad.Of(1))
	}
	return e
}

// fraction is the parts, which are less than a whole, as a number in its one form.
func (q quotient) fraction() api.Dyad {
	if q.parts == 0 {
		return api.Dyad{}
	}
	low := bits.TrailingZeros64(q.parts)
	return api.Dyad{Limbs: limb.Of(q.parts >> low), Exp: q.k - low}
}

// cut leaves out the limbs at the end that are 0.
func cut(a []uint32) []uint32 {
	n := len(a)
	for n > 0 && a[n-1] == 0 {
		n--
	}
	return a[:n]
}
