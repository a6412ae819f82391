package ether

import "math/bits"

// byteBits is how many bits a byte has.
const byteBits = 8

// mayTurn tells whether the mask may turn that text at a bit. Where the highest bit that it turns is one of the text's, so is each one below, down to at.
func mayTurn(text []byte, at int, mask uint32) bool {
	return mask != 0 && at >= 0 && at <= byteBits*len(text)-bits.Len32(mask)
}

// turn turns the text's bits in place.
func turn(text []byte, at int, mask uint32) {
	for bit := range turning(at, mask) {
		text[bit/byteBits] ^= 1 << (bit % byteBits)
	}
}

// turning yields the numbers of the bits that the mask turns at a bit, from the lowest on.
func turning(at int, mask uint32) func(yield func(bit int) bool) {
	return func(yield func(bit int) bool) {
		for left := mask; left != 0; left &= left - 1 {
			if !yield(at + bits.TrailingZeros32(left)) {
				return
			}
		}
	}
}
