package frame

const (
	byteBits = 8
	sumBytes = 4
	// folded is what a word is put together with for each 1 that falls out of it.
	folded word = 0xedb88320
)

// word is a sum under way.
type word uint32

// Sum is CRC-32 (IEEE 802.3).
func Sum(b []byte) uint32 {
	return uint32(^goOn(^word(0), b, word.with))
}

// goOn takes a word on from byte to byte.
func goOn(w word, b []byte, with func(word, byte) word) word {
	for _, x := range b {
		w = with(w, x)
	}
	return w
}

// with is the word behind one more byte.
func (w word) with(x byte) word {
	w ^= word(x)
	for range byteBits {
		out := w & 1
		w >>= 1
		if out == 1 {
			w ^= folded
		}
	}
	return w
}

// putSum puts a sum behind b, the lowest byte first.
func putSum(b []byte, sum uint32) []byte {
	for i := range sumBytes {
		b = append(b, byte(sum>>(byteBits*i)))
	}
	return b
}

// takeSum is the sum that putSum has put.
func takeSum(b []byte) uint32 {
	var sum uint32
	for i := range sumBytes {
		sum |= uint32(b[i]) << (byteBits * i)
	}
	return sum
}
