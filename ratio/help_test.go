package ratio_test

import (
	"math"
	"math/big"
	"slices"
	"testing"

	"headcount/api"
	"headcount/ratio"
)

const top = math.MaxUint32

// scale is not below any Exp that may be, so that all dyads are whole parts of 2^-scale.
const scale = 1024

// call is one of the package's calls, asked by two numbers and, if it is banded, by a k.
type call struct {
	name   string
	banded bool
	do     func(a, b api.Dyad, k int) (api.Dyad, api.Errno)
	// want is n / d, for d above 0, in parts of 2^-k.
	want func(n, d *big.Int, k int) *big.Int
}

func calls() []call {
	floor := func(n, d *big.Int, k int) *big.Int {
		out := new(big.Int).Lsh(n, uint(k))
		return out.Div(out, d)
	}
	return []call{
		{"Floor", true, ratio.Floor, floor},
		{"Ceil", true, ratio.Ceil, func(n, d *big.Int, k int) *big.Int {
			out := floor(new(big.Int).Neg(n), d, k)
			return out.Neg(out)
		}},
		{"Near", false, func(a, b api.Dyad, k int) (api.Dyad, api.Errno) { return ratio.Near(a, b) }, func(n, d *big.Int, k int) *big.Int {
			twice := new(big.Int).Lsh(n, 1)
			return floor(twice.Add(twice, d), new(big.Int).Lsh(d, 1), 0)
		}},
	}
}

// bands are the ks that a call is asked by, of some.
func (c call) bands(some ...int) []int {
	if c.banded {
		return some
	}
	return []int{0}
}

func (c call) refused(t *testing.T, a, b api.Dyad, k int, want api.Errno) {
	t.Helper()
	if got, e := c.do(a, b, k); e != want || !equal(got, api.Dyad{}) {
		t.Errorf("%s of %s and %s, k %d: %s, error %d; asked for error %d", c.name, short(a), short(b), k, short(got), int(e), int(want))
	}
}

// must fails unless a call is refused with ErrOver where what it tells may not be, and is just that, in its one form, where it may.
func (c call) must(t *testing.T, a, b api.Dyad, k int) {
	t.Helper()
	want, may := formed(c.want(great(a), great(b), k), k)
	if !may {
		c.refused(t, a, b, k, api.ErrOver)
		return
	}
	c.tells(t, a, b, k, want)
}

func (c call) tells(t *testing.T, a, b api.Dyad, k int, want api.Dyad) {
	t.Helper()
	if got, e := c.do(a, b, k); e != api.OK || !equal(got, want) {
		t.Errorf("%s of %s and %s, k %d: %s, error %d; asked for %s", c.name, short(a), short(b), k, short(got), int(e), short(want))
	}
}

// formed is n parts of 2^-k in their one form, if they may be.
func formed(n *big.Int, k int) (api.Dyad, bool) {
	if n.Sign() == 0 {
		return api.Dyad{}, true
	}
	low := min(int(n.TrailingZeroBits()), k)
	out := api.Dyad{Neg: n.Sign() < 0, Exp: k - low}
	left := new(big.Int).Rsh(new(big.Int).Abs(n), uint(low))
	for ; left.Sign() > 0; left.Rsh(left, 32) {
		out.Limbs = append(out.Limbs, uint32(left.Uint64()))
	}
	return out, len(out.Limbs) <= 40 && out.Exp <= 1024
}

// great is a, told in parts of 2^-scale.
func great(a api.Dyad) *big.Int {
	out := new(big.Int)
	for _, x := range slices.Backward(a.Limbs) {
		out.Lsh(out, 32).Or(out, big.NewInt(int64(x)))
	}
	out.Lsh(out, uint(scale-a.Exp))
	if a.Neg {
		out.Neg(out)
	}
	return out
}

func equal(a, b api.Dyad) bool {
	return a.Neg == b.Neg && a.Exp == b.Exp && slices.Equal(a.Limbs, b.Limbs)
}

// short is a's text; of one that may not be, not all limbs are told.
func short(a api.Dyad) string {
	out := new(big.Int)
	for _, x := range slices.Backward(a.Limbs[:min(len(a.Limbs), 50)]) {
		out.Lsh(out, 32).Or(out, big.NewInt(int64(x)))
	}
	sign := ""
	if a.Neg {
		sign = "-"
	}
	return sign + "0x" + out.Text(16) + "/2^" + big.NewInt(int64(a.Exp)).String()
}

func cloned(a api.Dyad) api.Dyad {
	return api.Dyad{Neg: a.Neg, Limbs: slices.Clone(a.Limbs), Exp: a.Exp}
}

func full(n int, x uint32) []uint32 { return slices.Repeat([]uint32{x}, n) }

// power is 2^k.
func power(k int) []uint32 { return append(full(k/32, 0), 1<<(k%32)) }

// odd is 2^k and 1, for k above 0.
func odd(k int) []uint32 {
	out := power(k)
	out[0] |= 1
	return out
}

// ones is 2^k less 1, for k above 0.
func ones(k int) []uint32 {
	out := full((k+31)/32, top)
	out[len(out)-1] >>= (32 - k%32) % 32
	return out
}

func whole(limbs ...uint32) api.Dyad          { return api.Dyad{Limbs: limbs} }
func parts(exp int, limbs ...uint32) api.Dyad { return api.Dyad{Limbs: limbs, Exp: exp} }

// negated is a with its sign turned; 0 has none.
func negated(a api.Dyad) api.Dyad {
	return api.Dyad{Neg: !a.Neg && len(a.Limbs) > 0, Limbs: a.Limbs, Exp: a.Exp}
}

// times is a product, for tests that hold what was told against what was asked.
func times(a, b api.Dyad) *big.Int {
	return new(big.Int).Mul(great(a), great(b))
}

// stream is numbers that look as if drawn, the same ones each time.
func stream(x uint64) func() uint64 {
	return func() uint64 {
		x ^= x << 13
		x ^= x >> 7
		x ^= x << 17
		return x
	}
}

// drawn is a number that may be, of n limbs, without a plan.
func drawn(draw func() uint64, n, exp int) api.Dyad {
	out := make([]uint32, n)
	for i := range n {
		out[i] = uint32(draw())
	}
	out[0] |= 1
	out[n-1] >>= draw() % 32
	out[n-1] |= 1
	return parts(exp, out...)
}

// divisors is numbers above 0: the edges of Limbs and Exp, and of several lengths some without a plan.
func divisors() []api.Dyad {
	out := []api.Dyad{
		whole(1), whole(2), whole(3), whole(7), whole(10), whole(12), whole(top), whole(0, 1), whole(1, 1), whole(top, top), whole(0, 1<<31), whole(1, 1<<31),
		whole(ones(1280)...), whole(power(1279)...), whole(odd(1279)...), whole(ones(1279)...), whole(ones(1248)...), whole(power(1248)...), whole(odd(640)...), whole(power(256)...),
		parts(1, 1), parts(1, 3), parts(2, 5), parts(31, 1), parts(32, 7), parts(64, 1), parts(64, 1, 1), parts(65, 3), parts(64, ones(64)...),
		parts(1, ones(1280)...), parts(640, ones(1280)...), parts(640, odd(640)...),
		parts(1024, 1), parts(1024, 3), parts(1024, ones(1280)...), parts(1024, odd(1279)...), parts(1024, ones(1024)...), parts(1024, odd(1024)...), parts(1023, ones(1279)...),
	}
	draw := stream(3)
	for _, n := range []int{1, 2, 5, 20, 32, 39, 40} {
		out = append(out, drawn(draw, n, 0), drawn(draw, n, int(draw()%1025)))
	}
	return out
}

// pool is all divisors, the same ones below 0, and 0.
func pool() []api.Dyad {
	out := divisors()
	for _, a := range slices.Clone(out) {
		out = append(out, negated(a))
	}
	return append(out, api.Dyad{}, api.Dyad{Limbs: []uint32{}})
}

// unfit is dyads that may not be, of both signs where a sign is not what they are wrong by.
func unfit() []api.Dyad {
	out := []api.Dyad{
		parts(1, 2), parts(1024, 2), parts(1, 0, 1), parts(3, 6, 5), parts(1, power(1279)...),
		parts(1025, 1), parts(1025), parts(2048, 5), parts(math.MaxInt, 1), parts(-1, 1), parts(-1), parts(math.MinInt, 1), parts(math.MinInt32, 1),
		parts(1), parts(1024), parts(math.MaxInt), parts(math.MinInt),
		whole(0), whole(1, 0), parts(1, 1, 0), whole(full(41, 1)...), whole(full(40, 0)...), whole(append(full(40, 1), 0)...), parts(1024, full(41, top)...), whole(full(1<<16, 1)...),
	}
	for _, a := range slices.Clone(out) {
		out = append(out, api.Dyad{Neg: true, Limbs: a.Limbs, Exp: a.Exp})
	}
	return append(out, api.Dyad{Neg: true}, api.Dyad{Neg: true, Limbs: []uint32{}})
}
