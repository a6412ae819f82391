package field_test

import (
	"bytes"
	"encoding/binary"
	"math"
	"slices"
	"testing"

	"headcount/api"
	"headcount/field"
)

const (
	top     = math.MaxUint32
	maxText = 3900
)

// numberField is the field of n, of a size from 1 to 8; n has no more digits.
func numberField(n uint64, size int) []byte {
	return binary.BigEndian.AppendUint64(nil, n)[8-size:]
}

// rawField is a field of these parts, whether a dyad has them or not.
func rawField(sign byte, exp uint16, count byte, limbs ...uint32) []byte {
	out := binary.BigEndian.AppendUint16([]byte{sign}, exp)
	out = append(out, count)
	for _, x := range limbs {
		out = binary.BigEndian.AppendUint32(out, x)
	}
	return out
}

// dyadField is the field of a, that may be.
func dyadField(a api.Dyad) []byte {
	sign := byte(0)
	if a.Neg {
		sign = 1
	}
	return rawField(sign, uint16(a.Exp), byte(len(a.Limbs)), a.Limbs...)
}

// readField is what b begins with, as the chapter tells of it: a dyad, how long its field is, or an error.
func readField(b []byte) (a api.Dyad, n int, e api.Errno) {
	if len(b) < 4 || len(b) < 4+4*int(b[3]) {
		return api.Dyad{}, 0, api.ErrShort
	}
	n = 4 + 4*int(b[3])
	a = api.Dyad{Neg: b[0] == 1, Exp: int(binary.BigEndian.Uint16(b[1:]))}
	for part := range slices.Chunk(b[4:n], 4) {
		a.Limbs = append(a.Limbs, binary.BigEndian.Uint32(part))
	}
	if b[0] > 1 || !fit(a) {
		return api.Dyad{}, 0, api.ErrForm
	}
	return a, n, api.OK
}

// fit tells whether a may be; it does not lean on dyad.Check.
func fit(a api.Dyad) bool {
	n := len(a.Limbs)
	if n == 0 {
		return !a.Neg && a.Exp == 0
	}
	return n <= 40 && a.Limbs[n-1] != 0 && a.Exp >= 0 && a.Exp <= 1024 && (a.Exp == 0 || a.Limbs[0]&1 == 1)
}

func equal(a, b api.Dyad) bool {
	return a.Neg == b.Neg && a.Exp == b.Exp && slices.Equal(a.Limbs, b.Limbs)
}

func sameRest(a, b api.Rest) bool { return a.At == b.At && bytes.Equal(a.Bytes, b.Bytes) }

// sameBytes tells whether a and b are the same memory, not the same bytes alone.
func sameBytes(a, b []byte) bool {
	if len(a) != len(b) || cap(a) != cap(b) || (a == nil) != (b == nil) {
		return false
	}
	return cap(a) == 0 || &a[:1][0] == &b[:1][0]
}

// stream is numbers that look as if drawn, the same ones each time.
func stream(x uint64) func() uint64 {
	return func() uint64 {
		x ^= x << 13
		x ^= x >> 7
		x ^= x << 17
		return x
	}
}

func drawn(draw func() uint64, n int) []byte {
	out := make([]byte, n)
	for i := range out {
		out[i] = byte(draw() >> 20)
	}
	return out
}

// joined is all of parts, in memory of its own.
func joined(parts ...[]byte) []byte { return slices.Concat(parts...) }

// fronts is bytes that may stand ahead of a field: none, such as look like fields, and several lengths without a plan.
func fronts() [][]byte {
	draw := stream(3)
	out := [][]byte{nil, {}, {0}, {255}, {1, 0, 2, 1, 0, 0, 0, 3}, {0, 0, 0, 0}, []byte("x"), {0, 0, 0, 255}}
	for _, n := range []int{2, 3, 7, 64, 300, 3000} {
		out = append(out, drawn(draw, n))
	}
	return out
}

// behinds is bytes that may stand behind a field.
func behinds() [][]byte {
	return [][]byte{nil, {0}, {255}, {0, 0, 0, 0}, {1, 0, 2, 1, 0, 0, 0, 3}, drawn(stream(5), 1000)}
}

// numbers is those that have at most size digits: the edges of each length, and some without a plan.
func numbers(size int) []uint64 {
	greatest := uint64(math.MaxUint64) >> (64 - 8*size)
	out := []uint64{0, 1, 2, 127, 128, 255, greatest, greatest - 1, greatest >> 1, greatest>>1 + 1}
	for k := 1; k < size; k++ {
		least := uint64(1) << (8 * k)
		out = append(out, least-1, least, least+1, 255*least)
	}
	draw := stream(uint64(17 + size))
	for range 40 {
		out = append(out, draw()&greatest)
	}
	return append(out, 0x0102030405060708&greatest, 0xf1e2d3c4b5a69788&greatest)
}

// beyond is numbers that have more than size digits, for a size below 8.
func beyond(size int) []uint64 {
	least := uint64(1) << (8 * size)
	out := []uint64{least, least + 1, least<<1 - 1, math.MaxUint64, 1 << 63, 1<<63 | 1, math.MaxUint64 - least + 1}
	for k := 8 * size; k < 64; k++ {
		out = append(out, 1<<k, 1<<k|5)
	}
	return out
}

func noSizes() []int {
	return []int{0, 9, 10, 16, 64, 72, 255, 256, 257, 264, 1 << 16, 1<<32 + 1, 1<<61 + 1, math.MaxInt32, math.MaxInt, -1, -2, -7, -8, -9, -64, -255, -256, math.MinInt32, math.MinInt, math.MinInt + 1}
}

func full(n int, x uint32) []uint32 { return slices.Repeat([]uint32{x}, n) }

func whole(limbs ...uint32) api.Dyad          { return api.Dyad{Limbs: limbs} }
func parts(exp int, limbs ...uint32) api.Dyad { return api.Dyad{Limbs: limbs, Exp: exp} }
func negated(a api.Dyad) api.Dyad             { return api.Dyad{Neg: !a.Neg, Limbs: a.Limbs, Exp: a.Exp} }

// pool is dyads that may be, of both signs: the edges of Limbs and Exp, and of each length one without a plan.
func pool() []api.Dyad {
	out := []api.Dyad{
		whole(1), whole(2), whole(255), whole(256), whole(1 << 24), whole(1 << 31), whole(top), whole(0x01020304), whole(0, 1), whole(0, 0, 0, 1<<31),
		whole(append(full(39, 0), 1)...), whole(full(40, top)...), whole(full(39, top)...), whole(1, 2, 3, 4),
	}
	for _, exp := range []int{1, 2, 127, 128, 255, 256, 257, 511, 512, 640, 1022, 1023, 1024} {
		out = append(out,
			parts(exp, 1), parts(exp, 3), parts(exp, top), parts(exp, 0x01020305), parts(exp, 1, 1),
			parts(exp, full(40, top)...), parts(exp, append(append([]uint32{1}, full(38, 0)...), 1)...))
	}
	draw := stream(11)
	for n := 1; n <= 40; n++ {
		rough := make([]uint32, n)
		for i := range n {
			rough[i] = uint32(draw())
		}
		rough[0] |= 1
		rough[n-1] |= 1
		out = append(out, whole(rough...), parts(1+int(draw()%1024), rough...))
	}
	for _, a := range slices.Clone(out) {
		out = append(out, negated(a))
	}
	return append(out, api.Dyad{}, api.Dyad{Limbs: []uint32{}})
}

// few is dyads of each kind, but not many.
func few() []api.Dyad {
	return []api.Dyad{
		{}, whole(1), negated(whole(1)), whole(7, 9), parts(1024, 1), negated(parts(1024, full(40, top)...)), whole(full(40, top)...), negated(parts(2, 3)), parts(300, 5, 0, 6),
	}
}

// unfit is dyads that may not be.
func unfit() []api.Dyad {
	out := []api.Dyad{
		parts(1, 2), parts(1024, 2), parts(1, 0, 1), parts(3, 6, 5), parts(7, append([]uint32{top - 1}, full(39, top)...)...),
		parts(1025, 1), parts(1025), parts(2048, 5), parts(65535, 1), parts(65536, 1), parts(65537, 3), parts(math.MaxInt, 1), parts(math.MaxInt32, 3, 1),
		parts(-1, 1), parts(-1), parts(-1, 2), parts(-65535, 1), parts(math.MinInt, 1), parts(math.MinInt32, 1),
		parts(1), parts(5), parts(1024), parts(math.MaxInt), parts(math.MinInt),
		whole(0), whole(1, 0), whole(0, 0), parts(1, 1, 0), whole(full(41, 1)...), whole(full(40, 0)...), whole(append(full(40, 1), 0)...),
		parts(1, full(41, 1)...), parts(1024, full(41, top)...), whole(full(255, 1)...), whole(full(256, 1)...), whole(full(257, 1)...), whole(full(1<<16, 1)...),
	}
	for _, a := range slices.Clone(out) {
		out = append(out, negated(a))
	}
	return append(out, api.Dyad{Neg: true}, api.Dyad{Neg: true, Limbs: []uint32{}})
}

// misshapen is fields of dyads that may not be, none of which ends too early.
func misshapen() [][]byte {
	out := [][]byte{
		rawField(0, 1, 0), rawField(0, 1024, 0), rawField(0, 1025, 0), rawField(1, 0, 0), rawField(1, 5, 0), rawField(2, 0, 0),
		rawField(0, 0, 1, 0), rawField(1, 0, 1, 0), rawField(0, 0, 2, 1, 0), rawField(1, 0, 2, 0, 0), rawField(0, 3, 2, 1, 0),
		rawField(0, 0, 40, append(full(39, 1), 0)...), rawField(0, 0, 41, append(full(40, 1), 0)...),
		rawField(0, 1, 1, 2), rawField(1, 1, 1, 1<<31), rawField(0, 1024, 1, 4), rawField(0, 1, 2, 0, 1), rawField(1, 700, 3, top-1, top, top),
		rawField(0, 1025, 1, 1), rawField(1, 1025, 1, 1), rawField(0, 1026, 1, 1), rawField(0, 2048, 1, 3), rawField(0, 32768, 1, 1), rawField(0, 65535, 1, 1),
		rawField(0, 1024+256, 1, 1), rawField(0, 1025, 40, full(40, 1)...),
	}
	for sign := 2; sign < 256; sign++ {
		out = append(out, rawField(byte(sign), 0, 1, 3), rawField(byte(sign), 2, 1, 3), rawField(byte(sign), 0, 0))
	}
	for count := 41; count < 256; count++ {
		out = append(out, rawField(0, 0, byte(count), full(count, 1)...), rawField(1, 7, byte(count), full(count, top)...))
	}
	return out
}

// badRests is bytes that are read, and may not be.
func badRests() []api.Rest {
	var out []api.Rest
	for _, b := range [][]byte{nil, {}, {0}, {0, 0, 0, 0}, {1, 0, 2, 1, 0, 0, 0, 3}, bytes.Repeat([]byte{1}, 300), make([]byte, 8, 64)} {
		n := len(b)
		for _, at := range []int{-1, -2, -n - 1, -8, math.MinInt, math.MinInt32, math.MinInt + 1, n + 1, n + 2, n + 8, math.MaxInt32, math.MaxInt, math.MaxInt - 1, math.MaxInt - 7} {
			out = append(out, api.Rest{Bytes: b, At: at})
		}
	}
	return out
}

// rest is front, b and back, read up to b.
func rest(front, b, back []byte) api.Rest {
	return api.Rest{Bytes: joined(front, b, back), At: len(front)}
}

// cuts is places ahead of n: all of the first and the last ones, and some between.
func cuts(n int) []int {
	var out []int
	for i := range n {
		if i < 20 || i > n-6 || i%29 == 0 {
			out = append(out, i)
		}
	}
	return out
}

func short(b []byte) []byte { return b[:min(len(b), 24)] }

// put fails unless what was put is front, and fields behind it.
func put(t *testing.T, got []byte, e api.Errno, front, fields []byte) {
	t.Helper()
	if e != api.OK || !bytes.Equal(got, joined(front, fields)) {
		t.Errorf("behind %d bytes: %d bytes, error %d, ends with %v; asked for %v", len(front), len(got), int(e), got[max(0, len(got)-len(fields)):], fields)
	}
}

func notPut(t *testing.T, got []byte, e, want api.Errno) {
	t.Helper()
	if e != want || len(got) > 0 {
		t.Errorf("%d bytes, error %d; asked for error %d", len(got), int(e), int(want))
	}
}

func numberTaken(t *testing.T, r api.Rest, size int, n uint64) {
	t.Helper()
	out, got, e := field.Number(r, size)
	if e != api.OK || got != n || out.At != r.At+size || !sameBytes(out.Bytes, r.Bytes) {
		t.Errorf("size %d, at %d of %d bytes: %d, at %d, error %d; asked for %d", size, r.At, len(r.Bytes), got, out.At, int(e), n)
	}
}

func numberRefused(t *testing.T, r api.Rest, size int, want api.Errno) {
	t.Helper()
	if out, n, e := field.Number(r, size); e != want || n != 0 || out.At != 0 || out.Bytes != nil {
		t.Errorf("size %d, at %d of %d bytes: %d, %v, error %d; asked for error %d", size, r.At, len(r.Bytes), n, out, int(e), int(want))
	}
}

func dyadTaken(t *testing.T, r api.Rest, a api.Dyad) {
	t.Helper()
	out, got, e := field.Dyad(r)
	if e != api.OK || !equal(got, a) || out.At != r.At+4+4*len(a.Limbs) || !sameBytes(out.Bytes, r.Bytes) {
		t.Errorf("at %d of %d bytes: %v, at %d, error %d; asked for %v", r.At, len(r.Bytes), got, out.At, int(e), a)
	}
}

func dyadRefused(t *testing.T, r api.Rest, want api.Errno) {
	t.Helper()
	if out, a, e := field.Dyad(r); e != want || a.Neg || a.Exp != 0 || len(a.Limbs) > 0 || out.At != 0 || out.Bytes != nil {
		t.Errorf("at %d of %d bytes: %v, %v, error %d; asked for error %d", r.At, len(r.Bytes), a, out, int(e), int(want))
	}
}

// asOracle fails unless Dyad takes from r what readField tells.
func asOracle(t *testing.T, r api.Rest) {
	t.Helper()
	a, n, e := readField(r.Bytes[r.At:])
	out, got, f := field.Dyad(r)
	if f != e || !equal(got, a) {
		t.Fatalf("%v, at %d: %v, error %d; asked for %v, error %d", short(r.Bytes), r.At, got, int(f), a, int(e))
	}
	if e == api.OK && out.At != r.At+n || e != api.OK && out.At != 0 {
		t.Fatalf("%v, at %d: at %d then", short(r.Bytes), r.At, out.At)
	}
}
