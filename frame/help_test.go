package frame_test

import (
	"bytes"
	"hash/crc32"
	"slices"
	"testing"

	"headcount/api"
	"headcount/frame"
)

// summed is b with its right sum behind it, whatever b is.
func summed(b []byte) []byte {
	s := crc32.ChecksumIEEE(b)
	return append(slices.Clone(b), byte(s), byte(s>>8), byte(s>>16), byte(s>>24))
}

// unsummed is b with a sum behind it that is another one.
func unsummed(b []byte) []byte {
	out := summed(b)
	out[len(out)-1] ^= 0x10
	return out
}

// headed is bytes that tell of a content of n bytes, whatever it has.
func headed(kind uint8, n int, content []byte) []byte {
	return append([]byte{72, 1, kind, byte(n >> 8), byte(n)}, content...)
}

// framed is a frame, as the chapter tells of it.
func framed(kind uint8, content []byte) []byte {
	return summed(headed(kind, len(content), content))
}

// stream is numbers that look as if drawn, the same ones each time.
func stream(x uint64) func() uint64 {
	return func() uint64 {
		x ^= x << 13
		x ^= x >> 7
		x ^= x << 17
		return x
	}
}

func drawn(draw func() uint64, n int) []byte {
	out := make([]byte, n)
	for i := range out {
		out[i] = byte(draw() >> 20)
	}
	return out
}

// contents is some that may be framed: without bytes, and of the lengths at which a byte of the length, or the room, ends.
func contents() [][]byte {
	out := [][]byte{nil, {}, {0}, {255}, {72}, {72, 1, 0, 0, 0}, []byte("123456789"), framed(3, []byte("within"))}
	draw := stream(41)
	for _, n := range []int{1, 2, 3, 4, 5, 9, 64, 254, 255, 256, 257, 511, 512, 1000, 4094, 4095, 4096} {
		out = append(out, drawn(draw, n), make([]byte, n), bytes.Repeat([]byte{255}, n))
	}
	return out
}

// few is those of contents that are short.
func few() [][]byte {
	return slices.DeleteFunc(contents(), func(c []byte) bool { return len(c) > 300 })
}

func kinds() []uint8 {
	var out []uint8
	for k := range 256 {
		out = append(out, uint8(k))
	}
	return out
}

func refused(t *testing.T, b []byte, want api.Errno) {
	t.Helper()
	if kind, c, e := frame.Take(b); e != want || kind != 0 || len(c) > 0 {
		t.Errorf("Take of %d bytes, %v: %d, %v, error %d; asked for error %d", len(b), short(b), kind, short(c), int(e), int(want))
	}
}

func taken(t *testing.T, b []byte, kind uint8, content []byte) {
	t.Helper()
	if k, c, e := frame.Take(b); e != api.OK || k != kind || !bytes.Equal(c, content) {
		t.Errorf("Take of %d bytes, %v: %d, %d bytes, error %d; asked for %d, %d bytes", len(b), short(b), k, len(c), int(e), kind, len(content))
	}
}

func short(b []byte) []byte { return b[:min(len(b), 20)] }

// turned is b with those bits turned that pattern has, from the bit at on. Bits are in the order in which the sum has them: a byte's lowest one is its first.
func turned(b []byte, at int, pattern uint32) []byte {
	out := slices.Clone(b)
	for i := range 32 {
		if pattern>>i&1 == 1 {
			out[(at+i)/8] ^= 1 << ((at + i) % 8)
		}
	}
	return out
}
