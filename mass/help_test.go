package mass_test

import (
	"math"
	"math/big"
	"slices"
	"testing"

	"headcount/api"
	"headcount/mass"
)

const (
	top      = math.MaxUint32
	maxValue = 2147483647
	maxSum   = 4096
)

// scale is above each Exp that may be, so that all dyads, and their halves, are whole parts of 2^-scale.
const scale = 1100

// names are those of a mass's parts, in order.
var names = [4]string{"S", "W", "C", "A"}

// list is the parts of m, in order.
func list(m api.Mass) [4]api.Dyad { return [4]api.Dyad{m.S, m.W, m.C, m.A} }

func ofList(l [4]api.Dyad) api.Mass { return api.Mass{S: l[0], W: l[1], C: l[2], A: l[3]} }

// with is m, but for its part of that place, which is a.
func with(m api.Mass, place int, a api.Dyad) api.Mass {
	l := list(m)
	l[place] = a
	return ofList(l)
}

// alone is a mass of which the part of that place is a, and all others 0.
func alone(place int, a api.Dyad) api.Mass { return with(api.Mass{}, place, a) }

// all is a mass of which each part is a, in memory of its own.
func all(a api.Dyad) api.Mass {
	return api.Mass{S: cloned(a), W: cloned(a), C: cloned(a), A: cloned(a)}
}

// equal does not lean on mass.Same or dyad.Same.
func equal(a, b api.Mass) bool {
	for i, x := range list(a) {
		if !equalDyads(x, list(b)[i]) {
			return false
		}
	}
	return true
}

func equalDyads(a, b api.Dyad) bool {
	return a.Neg == b.Neg && a.Exp == b.Exp && slices.Equal(a.Limbs, b.Limbs)
}

func cloned(a api.Dyad) api.Dyad {
	return api.Dyad{Neg: a.Neg, Limbs: slices.Clone(a.Limbs), Exp: a.Exp}
}

// copied is m in memory of its own; it does not lean on mass.Twin.
func copied(m api.Mass) api.Mass {
	return api.Mass{S: cloned(m.S), W: cloned(m.W), C: cloned(m.C), A: cloned(m.A)}
}

func full(n int, x uint32) []uint32 { return slices.Repeat([]uint32{x}, n) }

// power is 2^k.
func power(k int) []uint32 { return append(full(k/32, 0), 1<<(k%32)) }

func whole(limbs ...uint32) api.Dyad          { return api.Dyad{Limbs: limbs} }
func parts(exp int, limbs ...uint32) api.Dyad { return api.Dyad{Limbs: limbs, Exp: exp} }

// negated is a with its sign turned; 0 has none.
func negated(a api.Dyad) api.Dyad {
	if len(a.Limbs) == 0 {
		return a
	}
	return api.Dyad{Neg: !a.Neg, Limbs: a.Limbs, Exp: a.Exp}
}

func negatedMass(m api.Mass) api.Mass {
	return api.Mass{S: negated(m.S), W: negated(m.W), C: negated(m.C), A: negated(m.A)}
}

// greatest is the greatest dyad that may be, and least the least one above 0.
func greatest() api.Dyad { return whole(full(40, top)...) }
func least() api.Dyad    { return parts(1024, 1) }

// stream is numbers that look as if drawn, the same ones each time.
func stream(x uint64) func() uint64 {
	return func() uint64 {
		x ^= x << 13
		x ^= x >> 7
		x ^= x << 17
		return x
	}
}

// dyads is dyads that may be, of both signs: the edges of Limbs and Exp, and some without a plan.
func dyads() []api.Dyad {
	out := []api.Dyad{
		whole(1), whole(2), whole(3), whole(maxValue), whole(top), whole(0, 1), whole(0, 1<<31), greatest(), whole(power(1279)...), whole(power(256)...),
		whole(append([]uint32{top - 1}, full(39, top)...)...),
		parts(1, 1), parts(1, 3), parts(2, 1), parts(40, top, 1), parts(1023, 1), least(), parts(1024, 3), parts(1, full(40, top)...), parts(1023, full(40, top)...), parts(1024, full(40, top)...),
	}
	draw := stream(11)
	for _, n := range []int{1, 2, 8, 40} {
		for _, exp := range []int{0, 1 + int(draw()%1024)} {
			rough := make([]uint32, n)
			for i := range n {
				rough[i] = uint32(draw())
			}
			rough[0] |= 1
			rough[n-1] |= 1
			out = append(out, parts(exp, rough...))
		}
	}
	for _, a := range slices.Clone(out) {
		out = append(out, negated(a))
	}
	return append(out, api.Dyad{}, api.Dyad{Limbs: []uint32{}})
}

// pool is masses that may be: of one dyad in all parts, in each part alone, and of four that differ.
func pool() []api.Mass {
	out := []api.Mass{{}, all(api.Dyad{Limbs: []uint32{}})}
	from := dyads()
	draw := stream(23)
	for i, a := range from {
		out = append(out, all(a), alone(i%4, a))
		for range 2 {
			out = append(out, drawnMass(draw, from))
		}
	}
	return out
}

func drawnMass(draw func() uint64, from []api.Dyad) api.Mass {
	var l [4]api.Dyad
	for i := range l {
		l[i] = cloned(from[draw()%uint64(len(from))])
	}
	return ofList(l)
}

// unfit is dyads that may not be.
func unfit() []api.Dyad {
	out := []api.Dyad{
		parts(1, 2), parts(1024, 2), parts(1, 0, 1), parts(1, power(1279)...), parts(1025, 1), parts(1025), parts(math.MaxInt, 1), parts(-1, 1), parts(-1), parts(math.MinInt, 1),
		parts(1), parts(1024), whole(0), whole(1, 0), whole(full(41, 1)...), parts(1, 1, 0), whole(full(40, 0)...), whole(full(1<<16, 1)...),
	}
	for _, a := range slices.Clone(out) {
		out = append(out, api.Dyad{Neg: true, Limbs: a.Limbs, Exp: a.Exp})
	}
	return append(out, api.Dyad{Neg: true}, api.Dyad{Neg: true, Limbs: []uint32{}})
}

// unfitMasses is masses of which one part alone may not be, for each of the parts, and such of which none may.
func unfitMasses() []api.Mass {
	var out []api.Mass
	for _, a := range unfit() {
		for place := range 4 {
			out = append(out, alone(place, a), with(all(parts(3, 5)), place, a))
		}
		out = append(out, all(a))
	}
	return out
}

// noHalf is dyads that may be, of which a half has no room.
func noHalf() []api.Dyad {
	out := []api.Dyad{least(), parts(1024, 3), parts(1024, full(40, top)...), parts(1024, 1, 1), parts(1024, append(full(39, 1), 1<<31)...)}
	for _, a := range slices.Clone(out) {
		out = append(out, negated(a))
	}
	return out
}

// great is a, told in parts of 2^-scale.
func great(a api.Dyad) *big.Int {
	out := new(big.Int)
	for _, x := range slices.Backward(a.Limbs) {
		out.Lsh(out, 32).Or(out, big.NewInt(int64(x)))
	}
	out.Lsh(out, uint(scale-a.Exp))
	if a.Neg {
		out.Neg(out)
	}
	return out
}

// formed is what n, told in parts of 2^-scale, is as a dyad in its one form, or ErrOver, if there is none.
func formed(n *big.Int) (api.Dyad, api.Errno) {
	if n.Sign() == 0 {
		return api.Dyad{}, api.OK
	}
	exp := max(scale-int(n.TrailingZeroBits()), 0)
	digits := new(big.Int).Rsh(new(big.Int).Abs(n), uint(scale-exp))
	if exp > 1024 || digits.BitLen() > 32*40 {
		return api.Dyad{}, api.ErrOver
	}
	out := api.Dyad{Neg: n.Sign() < 0, Exp: exp}
	for digits.Sign() > 0 {
		out.Limbs = append(out.Limbs, uint32(digits.Uint64()))
		digits.Rsh(digits, 32)
	}
	return out, api.OK
}

// reckoned is what do makes of each part of a and the same one of b, told in parts of 2^-scale, or ErrOver, if one of these has no room.
func reckoned(a, b api.Mass, do func(out, x, y *big.Int) *big.Int) (api.Mass, api.Errno) {
	var l [4]api.Dyad
	for i, x := range list(a) {
		var e api.Errno
		if l[i], e = formed(do(new(big.Int), great(x), great(list(b)[i]))); e != api.OK {
			return api.Mass{}, e
		}
	}
	return ofList(l), api.OK
}

func added(a, b api.Mass) (api.Mass, api.Errno) { return reckoned(a, b, (*big.Int).Add) }

func lessened(a, b api.Mass) (api.Mass, api.Errno) { return reckoned(a, b, (*big.Int).Sub) }

// summed is all of l, one by one from 0 on.
func summed(l []api.Mass) (api.Mass, api.Errno) {
	var out api.Mass
	for _, m := range l {
		var e api.Errno
		if out, e = added(out, m); e != api.OK {
			return api.Mass{}, e
		}
	}
	return out, api.OK
}

// halfOf is half of a, told by its digits.
func halfOf(a api.Dyad) (api.Dyad, api.Errno) { return formed(new(big.Int).Rsh(great(a), 1)) }

// divided is what of m is kept, and what is sent.
func divided(m api.Mass) (kept, sent api.Mass, e api.Errno) {
	s, e := halfOf(m.S)
	w, f := halfOf(m.W)
	if e != api.OK || f != api.OK {
		return api.Mass{}, api.Mass{}, api.ErrOver
	}
	return api.Mass{S: s, W: w, C: m.C, A: m.A}, api.Mass{S: s, W: w}, api.OK
}

// call is one of the package's calls that take masses and answer some; of those that are handed in each takes as many as it needs.
type call struct {
	name string
	do   func(l []api.Mass) ([]api.Mass, api.Errno)
}

func calls() []call {
	return []call{
		{"Add", func(l []api.Mass) ([]api.Mass, api.Errno) { return listed(mass.Add(l[0], l[1])) }},
		{"Sub", func(l []api.Mass) ([]api.Mass, api.Errno) { return listed(mass.Sub(l[0], l[1])) }},
		{"Split", func(l []api.Mass) ([]api.Mass, api.Errno) {
			kept, sent, e := mass.Split(l[0])
			return []api.Mass{kept, sent}, e
		}},
		{"Sum of one", func(l []api.Mass) ([]api.Mass, api.Errno) { return listed(mass.Sum(l[:1])) }},
		{"Sum", func(l []api.Mass) ([]api.Mass, api.Errno) { return listed(mass.Sum(l)) }},
		{"Twin", func(l []api.Mass) ([]api.Mass, api.Errno) { return listed(mass.Twin(l[0]), api.OK) }},
	}
}

func listed(m api.Mass, e api.Errno) ([]api.Mass, api.Errno) { return []api.Mass{m}, e }

// answered fails unless a call is answered by want, or refused by e, and then with zero values beside it.
func answered(t *testing.T, name string, got api.Mass, e api.Errno, want api.Mass, f api.Errno) {
	t.Helper()
	if f != api.OK {
		want = api.Mass{}
	}
	if e != f || !equal(got, want) {
		t.Errorf("%s: %v, error %d; asked for %v, error %d", name, brief(got), int(e), brief(want), int(f))
	}
}

func refused(t *testing.T, name string, e, want api.Errno, got ...api.Mass) {
	t.Helper()
	for _, m := range got {
		answered(t, name, m, e, api.Mass{}, want)
	}
}

// brief is m's first limbs, which is enough to tell of it.
func brief(m api.Mass) api.Mass {
	l := list(m)
	for i := range l {
		l[i].Limbs = l[i].Limbs[:min(len(l[i].Limbs), 4)]
	}
	return ofList(l)
}

// memories is the memory that each part of the masses has, also behind its end.
func memories(masses []api.Mass) [][]uint32 {
	var out [][]uint32
	for _, m := range masses {
		for _, a := range list(m) {
			out = append(out, a.Limbs[:cap(a.Limbs)])
		}
	}
	return out
}

func clonedAll(l [][]uint32) [][]uint32 {
	out := make([][]uint32, len(l))
	for i, x := range l {
		out[i] = slices.Clone(x)
	}
	return out
}

func scribble(memory []uint32) {
	for i := range memory {
		memory[i] = ^memory[i]
	}
}
