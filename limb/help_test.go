package limb_test

import (
	"math"
	"math/big"
	"slices"
	"testing"

	"headcount/api"
	"headcount/limb"
)

const top = math.MaxUint32

// call is one of the package's calls that can be refused, asked by two numbers and a shift, of which it takes what it needs.
type call struct {
	name       string
	two, shift bool
	do         func(a, b []uint32, k int) answer
}

type answer struct {
	lists  [][]uint32
	number int
	e      api.Errno
}

func calls() []call {
	pair := func(f func(a, b []uint32) ([]uint32, api.Errno)) func(a, b []uint32, k int) answer {
		return func(a, b []uint32, k int) answer {
			out, e := f(a, b)
			return answer{lists: [][]uint32{out}, e: e}
		}
	}
	moved := func(f func(a []uint32, k int) ([]uint32, api.Errno)) func(a, b []uint32, k int) answer {
		return func(a, b []uint32, k int) answer {
			out, e := f(a, k)
			return answer{lists: [][]uint32{out}, e: e}
		}
	}
	told := func(f func(a []uint32) (int, api.Errno)) func(a, b []uint32, k int) answer {
		return func(a, b []uint32, k int) answer {
			n, e := f(a)
			return answer{number: n, e: e}
		}
	}
	return []call{
		{"Cmp", true, false, func(a, b []uint32, k int) answer {
			n, e := limb.Cmp(a, b)
			return answer{number: n, e: e}
		}},
		{"Add", true, false, pair(limb.Add)},
		{"Sub", true, false, pair(limb.Sub)},
		{"Mul", true, false, pair(limb.Mul)},
		{"Div", true, false, func(a, b []uint32, k int) answer {
			q, r, e := limb.Div(a, b)
			return answer{lists: [][]uint32{q, r}, e: e}
		}},
		{"Left", false, true, moved(limb.Left)},
		{"Right", false, true, moved(limb.Right)},
		{"Bits", false, false, told(limb.Bits)},
		{"Low", false, false, told(limb.Low)},
	}
}

func (a answer) same(b answer) bool {
	return a.e == b.e && a.number == b.number && slices.EqualFunc(a.lists, b.lists, slices.Equal)
}

func (a answer) twin() answer {
	lists := make([][]uint32, len(a.lists))
	for i, l := range a.lists {
		lists[i] = slices.Clone(l)
	}
	return answer{lists, a.number, a.e}
}

// refused is an answer with an error, and zero values beside it.
func (a answer) refused(e api.Errno) bool {
	return a.e == e && a.number == 0 && !slices.ContainsFunc(a.lists, func(l []uint32) bool { return len(l) > 0 })
}

func full(n int, x uint32) []uint32 { return slices.Repeat([]uint32{x}, n) }

// power is 2^k.
func power(k int) []uint32 { return append(full(k/32, 0), 1<<(k%32)) }

// stream is numbers that look as if drawn, the same ones each time.
func stream(x uint64) func() uint64 {
	return func() uint64 {
		x ^= x << 13
		x ^= x >> 7
		x ^= x << 17
		return x
	}
}

// pool is numbers that may be: the edges, and of each length some without a plan, also with many bits that are 0 or 1 in a row.
func pool() [][]uint32 {
	out := [][]uint32{
		nil, {}, {1}, {2}, {3}, {10}, {12}, {top}, {1 << 31},
		{0, 1}, {1, 1}, {top, top}, {0, top}, {0, 0, 1}, {0, 0, 0, 1 << 31},
		full(39, top), full(40, top), full(40, 1), full(20, top), full(21, top),
		power(1279), power(1278), power(1248), power(639), power(640),
		append(full(39, 0), 7), append(full(39, 0), top), append(full(1, 2), full(39, top)...), append(full(39, top), 1), append([]uint32{1}, power(1247)...),
	}
	draw := stream(7)
	for _, n := range []int{1, 2, 3, 5, 8, 13, 19, 20, 21, 39, 40} {
		rough, smooth := make([]uint32, n), make([]uint32, n)
		for i := range n {
			rough[i] = uint32(draw())
			smooth[i] = uint32(-int64(draw()>>5&1)) ^ 1<<(draw()>>9%32)
		}
		rough[n-1] |= 1
		smooth[n-1] |= 1
		out = append(out, rough, smooth)
	}
	return out
}

// unfit is limbs that may not be.
func unfit() [][]uint32 {
	return [][]uint32{
		{0}, {1, 0}, {0, 0}, {5, 6, 0, 0}, full(40, 0), append(full(39, 1), 0),
		full(41, 1), full(41, 0), append(full(40, 1), 0), append(full(40, 0), 1), full(80, top), full(1<<18, 1),
	}
}

func shifts() []int {
	return []int{0, 1, 2, 5, 31, 32, 33, 63, 64, 65, 100, 640, 1247, 1248, 1249, 1278, 1279, 1280, 1281, 1312, 5000, math.MaxInt32, math.MaxInt - 1279, math.MaxInt - 1, math.MaxInt}
}

func great(a []uint32) *big.Int {
	out := new(big.Int)
	for _, x := range slices.Backward(a) {
		out.Lsh(out, 32).Or(out, big.NewInt(int64(x)))
	}
	return out
}

// must fails unless a refused call is refused with ErrOver where want has no room, and is the limbs of want, in their one form, where it has.
func must(t *testing.T, name string, got []uint32, e api.Errno, want *big.Int) {
	t.Helper()
	if want.BitLen() > 32*40 {
		if e != api.ErrOver || len(got) > 0 {
			t.Errorf("%s: %v, error %d; it has more than 40 limbs", name, got, int(e))
		}
		return
	}
	if e != api.OK || limb.Check(got) != api.OK || great(got).Cmp(want) != 0 {
		t.Errorf("%s: %v, error %d; asked for %v", name, got, int(e), want)
	}
}
