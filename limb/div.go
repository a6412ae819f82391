package limb

import "headcount/api"

// Div is how often b goes into a, and what is left of a.
func Div(a, b []uint32) (q, r []uint32, e api.Errno) {
	if anyBad(a, b) {
		return nil, nil, api.ErrBad
	}
	if len(b) == 0 {
		return nil, nil, api.ErrArg
	}
	q, r = divide(a, b)
	return q, r, api.OK
}

// divide begins with so many of a's highest bits that they are still below b, and takes one more for each bit of the quotient.
func divide(a, b []uint32) (q, r []uint32) {
	n := max(size(a)-size(b)+1, 0)
	q = make([]uint32, (n+limbBits-1)/limbBits)
	r = make([]uint32, len(b)+1)
	copy(r, right(a, n))
digits:
	for i := n - 1; i >= 0; i-- {
		putTwice(r, a[i/limbBits]>>(i%limbBits)&1)
		for j := len(b); j >= 0; j-- {
			if r[j] < at(b, j) {
				continue digits
			}
			if r[j] > at(b, j) {
				break
			}
		}
		putLess(r, r, b)
		q[i/limbBits] |= 1 << (i % limbBits)
	}
	return cut(q), cut(r)
}

// putTwice doubles r, which has room for it, with bit as its new lowest one.
func putTwice(r []uint32, bit uint32) {
	place := places(uint64(bit))
	for i, x := range r {
		r[i] = place(uint64(x) << 1)
	}
}
