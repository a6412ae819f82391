package dyad_test

import (
	"math"
	"math/big"
	"slices"
	"testing"

	"headcount/api"
	"headcount/dyad"
)

const top = math.MaxUint32

// scale is above each Exp that may be, so that all dyads, and their halves, are whole parts of 2^-scale.
const scale = 1100

// call is one of the package's calls that can be refused, asked by two numbers, of which it takes what it needs.
type call struct {
	name string
	two  bool
	do   func(a, b api.Dyad) answer
}

type answer struct {
	dyad   api.Dyad
	number int
	e      api.Errno
}

func calls() []call {
	pair := func(f func(a, b api.Dyad) (api.Dyad, api.Errno)) func(a, b api.Dyad) answer {
		return func(a, b api.Dyad) answer {
			out, e := f(a, b)
			return answer{dyad: out, e: e}
		}
	}
	return []call{
		{"Cmp", true, func(a, b api.Dyad) answer {
			n, e := dyad.Cmp(a, b)
			return answer{number: n, e: e}
		}},
		{"Add", true, pair(dyad.Add)},
		{"Sub", true, pair(dyad.Sub)},
		{"Half", false, func(a, b api.Dyad) answer {
			out, e := dyad.Half(a)
			return answer{dyad: out, e: e}
		}},
	}
}

// equal does not lean on dyad.Same, which is asked itself.
func equal(a, b api.Dyad) bool {
	return a.Neg == b.Neg && a.Exp == b.Exp && slices.Equal(a.Limbs, b.Limbs)
}

func (a answer) same(b answer) bool {
	return a.e == b.e && a.number == b.number && equal(a.dyad, b.dyad)
}

// refused is an answer with an error, and zero values beside it.
func (a answer) refused(e api.Errno) bool {
	return a.same(answer{e: e})
}

// cloned is a in memory of its own; it does not lean on dyad.Twin.
func cloned(a api.Dyad) api.Dyad {
	return api.Dyad{Neg: a.Neg, Limbs: slices.Clone(a.Limbs), Exp: a.Exp}
}

func full(n int, x uint32) []uint32 { return slices.Repeat([]uint32{x}, n) }

// power is 2^k.
func power(k int) []uint32 { return append(full(k/32, 0), 1<<(k%32)) }

// odd is 2^k and 1, for k above 0.
func odd(k int) []uint32 {
	out := power(k)
	out[0] |= 1
	return out
}

func whole(limbs ...uint32) api.Dyad          { return api.Dyad{Limbs: limbs} }
func parts(exp int, limbs ...uint32) api.Dyad { return api.Dyad{Limbs: limbs, Exp: exp} }
func negated(a api.Dyad) api.Dyad             { return api.Dyad{Neg: !a.Neg, Limbs: a.Limbs, Exp: a.Exp} }

// stream is numbers that look as if drawn, the same ones each time.
func stream(x uint64) func() uint64 {
	return func() uint64 {
		x ^= x << 13
		x ^= x >> 7
		x ^= x << 17
		return x
	}
}

// pool is dyads that may be, of both signs: the edges of Limbs and Exp, and of several lengths some without a plan.
func pool() []api.Dyad {
	out := []api.Dyad{
		whole(1), whole(2), whole(3), whole(4), whole(12), whole(top), whole(0, 1), whole(top, top), whole(0, 1<<31),
		whole(full(40, top)...), whole(full(39, top)...), whole(power(1279)...), whole(power(1278)...), whole(odd(1279)...),
		whole(append([]uint32{top - 1}, full(39, top)...)...),
		whole(power(255)...), whole(power(256)...), whole(power(257)...), whole(odd(256)...), whole(odd(257)...), whole(power(1248)...),
	}
	for _, exp := range []int{1, 2, 31, 32, 33, 640, 1023, 1024} {
		out = append(out,
			parts(exp, 1), parts(exp, 3), parts(exp, top), parts(exp, 1, 1),
			parts(exp, full(40, top)...), parts(exp, full(39, top)...), parts(exp, odd(1279)...), parts(exp, odd(1278)...), parts(exp, odd(exp)...))
	}
	draw := stream(11)
	for _, n := range []int{1, 2, 8, 31, 32, 39, 40} {
		for _, exp := range []int{0, 1 + int(draw()%1024), 32 * n % 1024} {
			rough := make([]uint32, n)
			for i := range n {
				rough[i] = uint32(draw())
			}
			rough[0] |= 1
			rough[n-1] |= 1
			out = append(out, parts(exp, rough...))
		}
	}
	for _, a := range slices.Clone(out) {
		out = append(out, negated(a))
	}
	return append(out, api.Dyad{}, api.Dyad{Limbs: []uint32{}})
}

// unfit is dyads that may not be, of both signs where a sign is not what they are wrong by.
func unfit() []api.Dyad {
	out := []api.Dyad{
		parts(1, 2), parts(1024, 2), parts(1, 0, 1), parts(3, 6, 5), parts(1, power(1279)...), parts(7, append([]uint32{top - 1}, full(39, top)...)...),
		parts(1025, 1), parts(1025), parts(2048, 5), parts(math.MaxInt, 1), parts(math.MaxInt32, 3, 1),
		parts(-1, 1), parts(-1), parts(-1, 2), parts(-1024, 1), parts(math.MinInt, 1), parts(math.MinInt, 2), parts(math.MinInt32, 1),
		parts(1), parts(5), parts(1024), parts(math.MaxInt), parts(math.MinInt),
		whole(0), whole(1, 0), whole(0, 0), parts(1, 1, 0), whole(full(41, 1)...), whole(full(40, 0)...), whole(append(full(40, 1), 0)...),
		parts(1, full(41, 1)...), parts(1024, full(41, top)...), whole(power(1280)...), whole(full(1<<16, 1)...),
	}
	for _, a := range slices.Clone(out) {
		out = append(out, negated(a))
	}
	return append(out, api.Dyad{Neg: true}, api.Dyad{Neg: true, Limbs: []uint32{}})
}

// great is a, told in parts of 2^-scale.
func great(a api.Dyad) *big.Int {
	out := new(big.Int)
	for _, x := range slices.Backward(a.Limbs) {
		out.Lsh(out, 32).Or(out, big.NewInt(int64(x)))
	}
	out.Lsh(out, uint(scale-a.Exp))
	if a.Neg {
		out.Neg(out)
	}
	return out
}

// must fails unless a call is refused with ErrOver where want, told in parts of 2^-scale, may not be, and is it, in its one form, where it may.
func must(t *testing.T, name string, got api.Dyad, e api.Errno, want *big.Int) {
	t.Helper()
	exp := max(scale-int(want.TrailingZeroBits()), 0)
	if want.Sign() == 0 {
		exp = 0
	}
	size := max(want.BitLen()-scale+exp, 0)
	if size > 32*40 || exp > 1024 {
		if e != api.ErrOver || !equal(got, api.Dyad{}) {
			t.Errorf("%s: %v, error %d; it has %d digits, and Exp %d", name, got, int(e), size, exp)
		}
		return
	}
	if e != api.OK {
		t.Errorf("%s: error %d; it has %d digits, and Exp %d", name, int(e), size, exp)
		return
	}
	formed(t, name, got)
	if got.Exp != exp || got.Neg != (want.Sign() < 0) || great(got).Cmp(want) != 0 {
		t.Errorf("%s: %v; asked for Exp %d, and %v", name, got, exp, want)
	}
}

// formed fails unless a may be; it does not lean on dyad.Check, which is asked itself.
func formed(t *testing.T, name string, a api.Dyad) {
	t.Helper()
	n := len(a.Limbs)
	if n > 40 || n > 0 && a.Limbs[n-1] == 0 || n == 0 && (a.Neg || a.Exp != 0) || a.Exp < 0 || a.Exp > 1024 || a.Exp > 0 && a.Limbs[0]&1 == 0 {
		t.Errorf("%s: %v may not be", name, a)
	}
}

func pairOf(a api.Dyad, e api.Errno) answer { return answer{dyad: a, e: e} }

// negated0 is a with its sign turned; 0 has none.
func negated0(a api.Dyad) api.Dyad {
	if len(a.Limbs) == 0 {
		return a
	}
	return negated(a)
}

// scribble writes over all memory that an answer has, also behind its end.
func scribble(a api.Dyad) {
	all := a.Limbs[:cap(a.Limbs)]
	for i := range all {
		all[i] = ^all[i]
	}
}
