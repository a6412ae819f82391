package push_test

import (
	"math"
	"math/big"
	"slices"
	"testing"

	"headcount/api"
	"headcount/push"
)

const (
	top      = math.MaxUint32
	maxValue = 2147483647
	maxBand  = 64
)

// scale is above each Exp that may be, so that all dyads, and their halves, are whole parts of 2^-scale.
const scale = 1100

// stream is numbers that look as if drawn, the same ones each time.
func stream(x uint64) func(below int) int {
	return func(below int) int {
		x ^= x << 13
		x ^= x >> 7
		x ^= x << 17
		return int(x % uint64(below))
	}
}

// Dyads

func whole(limbs ...uint32) api.Dyad          { return api.Dyad{Limbs: limbs} }
func parts(exp int, limbs ...uint32) api.Dyad { return api.Dyad{Limbs: limbs, Exp: exp} }
func power(k int) api.Dyad                    { return whole(append(make([]uint32, k/32), 1<<(k%32))...) }

// number is a whole number.
func number(n int) api.Dyad {
	out, _ := formed(new(big.Int).Lsh(big.NewInt(int64(n)), scale))
	return out
}

// negated is a with its sign turned; 0 has none.
func negated(a api.Dyad) api.Dyad {
	a.Neg = !a.Neg && len(a.Limbs) > 0
	return a
}

// greatest is the greatest dyad that may be, least the least one above 0, and finest the greatest one with the greatest Exp.
func greatest() api.Dyad { return whole(slices.Repeat([]uint32{top}, 40)...) }
func least() api.Dyad    { return parts(1024, 1) }
func finest() api.Dyad   { return parts(1024, greatest().Limbs...) }

// great is a, told in parts of 2^-scale.
func great(a api.Dyad) *big.Int {
	out := new(big.Int)
	for _, x := range slices.Backward(a.Limbs) {
		out.Lsh(out, 32).Or(out, big.NewInt(int64(x)))
	}
	out.Lsh(out, uint(scale-a.Exp))
	if a.Neg {
		out.Neg(out)
	}
	return out
}

// formed is what n, told in parts of 2^-scale, is as a dyad in its one form, or ErrOver, if there is none.
func formed(n *big.Int) (api.Dyad, api.Errno) {
	if n.Sign() == 0 {
		return api.Dyad{}, api.OK
	}
	exp := max(scale-int(n.TrailingZeroBits()), 0)
	digits := new(big.Int).Rsh(new(big.Int).Abs(n), uint(scale-exp))
	if exp > 1024 || digits.BitLen() > 32*40 {
		return api.Dyad{}, api.ErrOver
	}
	out := api.Dyad{Neg: n.Sign() < 0, Exp: exp}
	for digits.Sign() > 0 {
		out.Limbs = append(out.Limbs, uint32(digits.Uint64()))
		digits.Rsh(digits, 32)
	}
	return out, api.OK
}

// dyads is dyads above 0 that may be: the edges of Limbs and Exp, and some without a plan.
func dyads() []api.Dyad {
	out := []api.Dyad{
		whole(1), whole(2), whole(3), whole(7), whole(maxValue), whole(1 << 31), whole(top), whole(0, 1), power(1278), power(1279), greatest(), whole(append([]uint32{top - 1}, greatest().Limbs[1:]...)...),
		parts(1, 1), parts(1, 3), parts(2, 1), parts(3, 13), parts(64, 1, 5, 9), parts(1023, 1), parts(1024, 3), least(), parts(1, greatest().Limbs...), parts(1023, greatest().Limbs...), finest(),
	}
	draw := stream(11)
	for _, count := range []int{1, 2, 9, 40} {
		for _, exp := range []int{0, 1 + draw(1024), 1 + draw(32)} {
			rough := make([]uint32, count)
			for i := range rough {
				rough[i] = uint32(draw(1 << 32))
			}
			rough[0] |= 1
			rough[count-1] |= 1
			out = append(out, parts(exp, rough...))
		}
	}
	return out
}

// unfitDyads is dyads that may not be.
func unfitDyads() []api.Dyad {
	out := []api.Dyad{
		parts(1), parts(-1), parts(1024), whole(0), whole(1, 0), parts(1, 2), parts(3, 0, 1), parts(1025, 1), parts(-1, 1), parts(math.MinInt, 1), parts(math.MaxInt, 1),
		whole(slices.Repeat([]uint32{1}, 41)...), whole(make([]uint32, 40)...), whole(slices.Repeat([]uint32{1}, 1<<16)...),
	}
	for _, a := range slices.Clone(out) {
		out = append(out, api.Dyad{Neg: true, Limbs: a.Limbs, Exp: a.Exp})
	}
	return append(out, api.Dyad{Neg: true}, api.Dyad{Neg: true, Limbs: []uint32{}})
}

// Masses

// names are those of a mass's parts, in order.
var names = [4]string{"S", "W", "C", "A"}

// list is the parts of m, in order.
func list(m api.Mass) [4]api.Dyad { return [4]api.Dyad{m.S, m.W, m.C, m.A} }

// with is m, but for its part of that place, which is a.
func with(m api.Mass, place int, a api.Dyad) api.Mass {
	l := list(m)
	l[place] = a
	return api.Mass{S: l[0], W: l[1], C: l[2], A: l[3]}
}

// share is a mass of S and W, with averages that count for nothing.
func share(s, w api.Dyad) api.Mass {
	return api.Mass{S: s, W: w, C: parts(5, 3), A: negated(whole(9, 9))}
}

// shares is shares that may be: those without weight, all S by some W, and all W by some S.
func shares() []api.Mass {
	out := []api.Mass{{}, {S: api.Dyad{Limbs: []uint32{}}, W: api.Dyad{Limbs: []uint32{}}}, share(api.Dyad{}, api.Dyad{}), {C: greatest(), A: negated(greatest())}}
	l := dyads()
	for i, w := range l {
		out = append(out, api.Mass{W: w}, share(w, w), share(negated(w), w), api.Mass{S: w, W: whole(1), C: least(), A: finest()})
		for j := i % 3; j < len(l); j += 3 {
			s := l[j]
			if (i+j)%2 > 0 {
				s = negated(s)
			}
			out = append(out, share(s, w))
		}
	}
	return out
}

// unfit is masses that may not be as shares: not as masses, by each of the parts; of a weight below 0; of a sum without weight.
func unfit() []api.Mass {
	var out []api.Mass
	for _, a := range unfitDyads() {
		for place := range 4 {
			out = append(out, with(api.Mass{}, place, a), with(share(whole(6), whole(1)), place, a), with(share(negated(greatest()), least()), place, a))
		}
	}
	for _, a := range dyads() {
		below := negated(a)
		out = append(out, api.Mass{W: below}, share(whole(1), below), share(below, below), api.Mass{S: a, W: negated(least())})
		out = append(out, api.Mass{S: a}, api.Mass{S: below}, share(a, api.Dyad{}), api.Mass{S: below, W: api.Dyad{Limbs: []uint32{}}, C: a, A: a})
	}
	return out
}

// equal does not lean on mass.Same or dyad.Same.
func equal(a, b api.Mass) bool {
	for i, x := range list(a) {
		if !equalDyads(x, list(b)[i]) {
			return false
		}
	}
	return true
}

func equalDyads(a, b api.Dyad) bool {
	return a.Neg == b.Neg && a.Exp == b.Exp && slices.Equal(a.Limbs, b.Limbs)
}

// What is asked for, by math/big

// gift is what of m is kept, and what is sent.
func gift(m api.Mass) (kept, sent api.Mass, e api.Errno) {
	if len(m.W.Limbs) == 0 {
		return api.Mass{}, api.Mass{}, api.ErrNone
	}
	s, e := formed(new(big.Int).Rsh(great(m.S), 1))
	w, f := formed(new(big.Int).Rsh(great(m.W), 1))
	if e != api.OK || f != api.OK {
		return api.Mass{}, api.Mass{}, api.ErrOver
	}
	return api.Mass{S: s, W: w, C: m.C, A: m.A}, api.Mass{S: s, W: w}, api.OK
}

func taken(m, sent api.Mass) (api.Mass, api.Errno) {
	s, e := formed(new(big.Int).Add(great(m.S), great(sent.S)))
	w, f := formed(new(big.Int).Add(great(m.W), great(sent.W)))
	if e != api.OK || f != api.OK {
		return api.Mass{}, api.ErrOver
	}
	return api.Mass{S: s, W: w, C: m.C, A: m.A}, api.OK
}

func band(m api.Mass, k int) (low, high api.Dyad, e api.Errno) {
	if len(m.W.Limbs) == 0 {
		return api.Dyad{}, api.Dyad{}, api.ErrNone
	}
	down, left := new(big.Int).DivMod(new(big.Int).Lsh(great(m.S), uint(k)), great(m.W), new(big.Int))
	up := new(big.Int).Set(down)
	if left.Sign() > 0 {
		up.Add(up, big.NewInt(1))
	}
	low, e = formed(down.Lsh(down, uint(scale-k)))
	high, f := formed(up.Lsh(up, uint(scale-k)))
	if e != api.OK || f != api.OK {
		return api.Dyad{}, api.Dyad{}, api.ErrOver
	}
	return low, high, api.OK
}

// lies is whether m lies between low and high, by the Words.
func lies(m api.Mass, low, high int) bool {
	s, w := great(m.S), great(m.W)
	return new(big.Int).Mul(w, big.NewInt(int64(low))).Cmp(s) <= 0 && s.Cmp(new(big.Int).Mul(w, big.NewInt(int64(high)))) <= 0
}

// Calls

// answered fails unless a call is answered by want, or refused by f, and then with zero values beside it.
func answered(t *testing.T, name string, got api.Mass, e api.Errno, want api.Mass, f api.Errno) {
	t.Helper()
	if f != api.OK {
		want = api.Mass{}
	}
	if e != f || !equal(got, want) {
		t.Errorf("%s: %v, error %d; asked for %v, error %d", name, brief(got), int(e), brief(want), int(f))
	}
}

func give(t *testing.T, name string, m, kept, sent api.Mass, e api.Errno) {
	t.Helper()
	gotKept, gotSent, got := push.Give(m)
	answered(t, "Give, kept, of "+name, gotKept, got, kept, e)
	answered(t, "Give, sent, of "+name, gotSent, got, sent, e)
}

func take(t *testing.T, name string, m, sent, want api.Mass, e api.Errno) {
	t.Helper()
	got, f := push.Take(m, sent)
	answered(t, "Take of "+name, got, f, want, e)
}

func mean(t *testing.T, name string, m api.Mass, k int, low, high api.Dyad, e api.Errno) {
	t.Helper()
	gotLow, gotHigh, got := push.Mean(m, k)
	if e != api.OK {
		low, high = api.Dyad{}, api.Dyad{}
	}
	if got != e || !equalDyads(gotLow, low) || !equalDyads(gotHigh, high) {
		t.Errorf("Mean of %s, k %d: %v, %v, error %d; asked for %v, %v, error %d", name, k, briefDyad(gotLow), briefDyad(gotHigh), int(got), briefDyad(low), briefDyad(high), int(e))
	}
}

func between(t *testing.T, name string, m api.Mass, low, high int, want bool, e api.Errno) {
	t.Helper()
	got, f := push.Between(m, low, high)
	if got != want || f != e {
		t.Errorf("Between of %s, %d and %d: %v, error %d; asked for %v, error %d", name, low, high, got, int(f), want, int(e))
	}
}

// refused fails unless all calls refuse m by e, with arguments beside it that are refused too, and with such that are not.
func refused(t *testing.T, name string, m api.Mass, e api.Errno) {
	t.Helper()
	if got := push.Check(m); got != e {
		t.Errorf("Check of %s: %d", name, int(got))
	}
	give(t, name, m, api.Mass{}, api.Mass{}, e)
	for _, other := range []api.Mass{{}, share(whole(6), whole(1)), share(greatest(), greatest()), share(negated(greatest()), least()), m} {
		take(t, name, m, other, api.Mass{}, e)
		take(t, name+", as what is sent", other, m, api.Mass{}, e)
	}
	for _, k := range []int{0, 1, maxBand, maxBand + 1, -1, math.MinInt, math.MaxInt} {
		mean(t, name, m, k, api.Dyad{}, api.Dyad{}, e)
	}
	for _, values := range [][2]int{{0, 0}, {-maxValue, maxValue}, {1, 0}, {maxValue, -maxValue}, {math.MinInt, 0}, {0, math.MaxInt}} {
		between(t, name, m, values[0], values[1], false, e)
	}
}

// brief is m's first limbs, which is enough to tell of it.
func brief(m api.Mass) api.Mass {
	return api.Mass{S: briefDyad(m.S), W: briefDyad(m.W), C: briefDyad(m.C), A: briefDyad(m.A)}
}

func briefDyad(a api.Dyad) api.Dyad {
	a.Limbs = a.Limbs[:min(len(a.Limbs), 4)]
	return a
}

// Memory

// marked is m in memory of its own, with marks behind the end of each part.
func marked(m api.Mass) api.Mass {
	for place, a := range list(m) {
		a.Limbs = append(slices.Clone(a.Limbs), 0xfeedbeef, 0, 7)[:len(a.Limbs)]
		m = with(m, place, a)
	}
	return m
}

// memories is the memory that each part of the masses has, also behind its end.
func memories(l ...api.Mass) [][]uint32 {
	var out [][]uint32
	for _, m := range l {
		for _, a := range list(m) {
			out = append(out, a.Limbs[:cap(a.Limbs)])
		}
	}
	return out
}

func clonedAll(l [][]uint32) [][]uint32 {
	var out [][]uint32
	for _, x := range l {
		out = append(out, slices.Clone(x))
	}
	return out
}

func same(a, b [][]uint32) bool { return slices.EqualFunc(a, b, slices.Equal) }

func scribble(memory []uint32) {
	for i := range memory {
		memory[i] = ^memory[i]
	}
}
