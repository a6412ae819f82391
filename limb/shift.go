package limb

import (
	"math/bits"

	"headcount/api"
)

// Left is a times 2^k.
func Left(a []uint32, k int) ([]uint32, api.Errno) {
	if anyBad(a) {
		return nil, api.ErrBad
	}
	if k < 0 {
		return nil, api.ErrArg
	}
	if len(a) == 0 {
		return nil, api.OK
	}
	// Asked ahead of the shift, as k may be too great for memory.
	if k > maxBits-size(a) {
		return nil, api.ErrOver
	}
	whole, part := k/limbBits, k%limbBits
	out := make([]uint32, whole+len(a)+1)
	place := places(0)
	for i, x := range a {
		out[whole+i] = place(uint64(x) << part)
	}
	out[whole+len(a)] = place(0)
	return cut(out), api.OK
}

// Right is a / 2^k, rounded down.
func Right(a []uint32, k int) ([]uint32, api.Errno) {
	if anyBad(a) {
		return nil, api.ErrBad
	}
	if k < 0 {
		return nil, api.ErrArg
	}
	return right(a, k), api.OK
}

// Bits is how many binary digits a has.
func Bits(a []uint32) (int, api.Errno) {
	if anyBad(a) {
		return 0, api.ErrBad
	}
	return size(a), api.OK
}

// Low is the greatest k with a a multiple of 2^k; 0, of 0.
func Low(a []uint32) (int, api.Errno) {
	if anyBad(a) {
		return 0, api.ErrBad
	}
	for i, x := range a {
		if x != 0 {
			return i*limbBits + bits.TrailingZeros32(x), api.OK
		}
	}
	return 0, api.OK
}

func size(a []uint32) int {
	if len(a) == 0 {
		return 0
	}
	return (len(a)-1)*limbBits + bits.Len32(a[len(a)-1])
}

func right(a []uint32, k int) []uint32 {
	if k >= size(a) {
		return nil
	}
	whole, part := k/limbBits, k%limbBits
	out := make([]uint32, len(a)-whole)
	for i := range out {
		pair := uint64(at(a, whole+i+1))<<limbBits | uint64(a[whole+i])
		out[i] = uint32(pair >> part)
	}
	return cut(out)
}
