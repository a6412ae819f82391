package ratio

import (
	"math/bits"
	"slices"

	"headcount/api"
)

// number is a number that is divided. Its limbs from MaxLimbs on are what is left of the digits that were gone through: less than the divisor, and there is one more than it has, as they are doubled.
// The limbs beneath are the digits that are still to come.
type number [2*api.MaxLimbs + 1]uint32

// place puts limbs, times 2^k, where those begin that were gone through.
func place(limbs []uint32, k int) number {
	var n number
	k += maxBits
	copy(n[k/limbBits:], limbs)
	for range k % limbBits {
		n.double()
	}
	return n
}

// next goes through one more digit, and tells how often b goes into what there is then: at most once, as it did not go into it ahead of that.
func (n *number) next(b []uint32) uint32 {
	n.double()
	if n.below(b) {
		return 0
	}
	n.takeOff(b)
	return 1
}

func (n *number) double() {
	for i := len(n) - 1; i > 0; i-- {
		n[i] = n[i]<<1 | n[i-1]>>(limbBits-1)
	}
	n[0] <<= 1
}

func (n *number) below(b []uint32) bool {
	if n[api.MaxLimbs+len(b)] > 0 {
		return false
	}
	for i, x := range slices.Backward(b) {
		if y := n[api.MaxLimbs+i]; y != x {
			return y < x
		}
	}
	return false
}

func (n *number) takeOff(b []uint32) {
	var borrow uint32
	for i, x := range b {
		n[api.MaxLimbs+i], borrow = bits.Sub32(n[api.MaxLimbs+i], x, borrow)
	}
	n[api.MaxLimbs+len(b)] -= borrow
}
