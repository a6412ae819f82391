package limb

import "headcount/api"

// Add is the sum of a and b.
func Add(a, b []uint32) ([]uint32, api.Errno) {
	if anyBad(a, b) {
		return nil, api.ErrBad
	}
	out := make([]uint32, max(len(a), len(b))+1)
	place := places(0)
	for i := range out {
		out[i] = place(uint64(at(a, i)) + uint64(at(b, i)))
	}
	return bounded(out)
}

// Sub is a less b.
func Sub(a, b []uint32) ([]uint32, api.Errno) {
	if anyBad(a, b) {
		return nil, api.ErrBad
	}
	if compare(a, b) < 0 {
		return nil, api.ErrSign
	}
	out := make([]uint32, len(a))
	putLess(out, a, b)
	return cut(out), api.OK
}

// Mul is the product of a and b.
func Mul(a, b []uint32) ([]uint32, api.Errno) {
	if anyBad(a, b) {
		return nil, api.ErrBad
	}
	out := make([]uint32, len(a)+len(b))
	for i, x := range a {
		place := places(0)
		for j, y := range b {
			out[i+j] = place(uint64(x)*uint64(y) + uint64(out[i+j]))
		}
		out[i+len(b)] = place(0)
	}
	return bounded(out)
}

// places tells, place by place from the lowest on, the limb that stays of what comes together there, and keeps the carry for the next one.
// A product of two limbs, a limb and a carry still have room in 64 bits.
func places(carry uint64) func(sum uint64) uint32 {
	return func(sum uint64) uint32 {
		sum += carry
		carry = sum >> limbBits
		return uint32(sum)
	}
}

// putLess puts a less b, which is not above it, into out, which may be a.
// Instead of b its limbs' complement is added, and 1, so that sums' carries do for differences too.
func putLess(out, a, b []uint32) {
	place := places(1)
	for i := range out {
		out[i] = place(uint64(at(a, i)) + uint64(^at(b, i)))
	}
}

func bounded(out []uint32) ([]uint32, api.Errno) {
	out = cut(out)
	if len(out) > api.MaxLimbs {
		return nil, api.ErrOver
	}
	return out, api.OK
}
