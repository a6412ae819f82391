// Package limb is layer 1: great numbers from 0 on, of limbs of 32 bits, the lowest first. See shared/doc/01-limb.md.
package limb

import (
	"slices"

	"headcount/api"
)

const (
	limbBits = 32
	maxBits  = limbBits * api.MaxLimbs
)

// Check is ErrBad, unless a's limbs may be.
func Check(a []uint32) api.Errno {
	if len(a) > api.MaxLimbs || len(a) > 0 && a[len(a)-1] == 0 {
		return api.ErrBad
	}
	return api.OK
}

// Of is n's limbs.
func Of(n uint64) []uint32 {
	return cut([]uint32{uint32(n), uint32(n >> limbBits)})
}

// Same tells whether a and b have the same limbs, whether they may be or not.
func Same(a, b []uint32) bool {
	return slices.Equal(a, b)
}

// Cmp is -1, 0 or 1, as a is below b, the same, or above it.
func Cmp(a, b []uint32) (int, api.Errno) {
	if anyBad(a, b) {
		return 0, api.ErrBad
	}
	return compare(a, b), api.OK
}

func anyBad(numbers ...[]uint32) bool {
	for _, a := range numbers {
		if Check(a) != api.OK {
			return true
		}
	}
	return false
}

func compare(a, b []uint32) int {
	if len(a) != len(b) {
		if len(a) < len(b) {
			return -1
		}
		return 1
	}
	for i := len(a) - 1; i >= 0; i-- {
		if a[i] < b[i] {
			return -1
		}
		if a[i] > b[i] {
			return 1
		}
	}
	return 0
}

// at is the limb at a's place i: above the last one, all are 0.
func at(a []uint32, i int) uint32 {
	if i < len(a) {
		return a[i]
	}
	return 0
}

// cut leaves out the limbs at the end that are 0, and the room for them too, so that no answer can grow into it.
func cut(a []uint32) []uint32 {
	n := len(a)
	for n > 0 && a[n-1] == 0 {
		n--
	}
	return a[:n:n]
}
