package ratio_test

import (
	"math"
	"math/big"
	"slices"
	"testing"

	"headcount/api"
	"headcount/dyad"
	"headcount/ratio"
)

// P3.1

func TestQuotients(t *testing.T) {
	all := pool()
	for _, c := range calls() {
		for _, b := range divisors() {
			for _, a := range all {
				for _, k := range c.bands(0, 1, 2, 31, 63, 64) {
					c.must(t, a, b, k)
				}
			}
		}
	}
}

// TestAllBands goes through each k, and numbers that are near 0, on both sides.
func TestAllBands(t *testing.T) {
	for _, c := range calls() {
		for _, k := range c.bands(bands()...) {
			for n := int64(-20); n <= 20; n++ {
				for _, b := range []api.Dyad{whole(1), whole(2), whole(3), whole(6), whole(8), whole(113), parts(1, 1), parts(3, 5), parts(k+1, 1), parts(k+1, 3), whole(odd(k + 1)...)} {
					c.must(t, dyad.Of(n), b, k)
					c.must(t, negated(parts(k+1, 3)), b, k)
				}
			}
		}
	}
}

func bands() []int {
	var out []int
	for k := range 65 {
		out = append(out, k)
	}
	return out
}

// TestDrawn has quotients of all lengths.
func TestDrawn(t *testing.T) {
	draw := stream(5)
	for range 2000 {
		a := drawn(draw, 1+int(draw()%40), int(draw()%1025))
		b := drawn(draw, 1+int(draw()%40), int(draw()%1025))
		a.Neg = draw()%2 > 0
		for _, c := range calls() {
			for _, k := range c.bands(int(draw()%65), 64) {
				c.must(t, a, b, k)
			}
		}
	}
}

// TestAround has quotients that are a part just so, and those that are a little below it, and above it.
func TestAround(t *testing.T) {
	draw := stream(9)
	for range 1000 {
		b := drawn(draw, 1+int(draw()%37), int(draw()%1025))
		product := great(whole(b.Limbs...))
		product.Rsh(product, scale).Mul(product, big.NewInt(int64(draw()>>(1+draw()%60))))
		k := int(draw() % 67)
		for _, apart := range []int64{-1, 0, 1} {
			a, may := formed(new(big.Int).Add(product, big.NewInt(apart)), min(b.Exp+k, 1024))
			if !may {
				t.Fatalf("%s may not be", short(a))
			}
			for _, c := range calls() {
				for _, band := range c.bands(min(k, 64), max(k-3, 0)) {
					c.must(t, a, b, band)
					c.must(t, negated(a), b, band)
				}
			}
		}
	}
}

func TestBadFirst(t *testing.T) {
	fit := []api.Dyad{{}, whole(1), negated(whole(1)), parts(1024, 1), whole(ones(1280)...)}
	for _, c := range calls() {
		for _, k := range c.bands(0, 64, -1, 65, math.MinInt, math.MaxInt) {
			for _, bad := range unfit() {
				c.refused(t, bad, bad, k, api.ErrBad)
				for _, good := range fit {
					c.refused(t, bad, good, k, api.ErrBad)
					c.refused(t, good, bad, k, api.ErrBad)
				}
			}
		}
	}
}

// TestArg also has quotients that would have no room.
func TestArg(t *testing.T) {
	notAbove0 := []api.Dyad{{}, {Limbs: []uint32{}}, negated(whole(1)), negated(parts(1024, 1)), negated(whole(ones(1280)...)), negated(parts(1, 1))}
	for _, c := range calls() {
		for _, a := range pool() {
			for _, k := range c.bands(0, 1, 64, -1, 65) {
				for _, b := range notAbove0 {
					c.refused(t, a, b, k, api.ErrArg)
				}
			}
			if !c.banded {
				continue
			}
			for _, k := range []int{-1, 65, -64, 66, 128, 1 << 32, math.MinInt, math.MinInt32, math.MaxInt32, math.MaxInt} {
				c.refused(t, a, whole(1), k, api.ErrArg)
				c.refused(t, a, parts(1024, 1), k, api.ErrArg)
			}
		}
	}
}

func Test0Divided(t *testing.T) {
	for _, c := range calls() {
		for _, b := range divisors() {
			for _, k := range c.bands(bands()...) {
				c.tells(t, api.Dyad{}, b, k, api.Dyad{})
				c.tells(t, whole(), b, k, api.Dyad{})
			}
		}
	}
}

// TestJustSo has quotients that are such a part: down and up tell the same.
func TestJustSo(t *testing.T) {
	for _, c := range []struct {
		a, b api.Dyad
		k    int
		want api.Dyad
	}{
		{whole(12), whole(4), 0, whole(3)},
		{whole(12), whole(8), 1, parts(1, 3)},
		{whole(12), whole(8), 64, parts(1, 3)},
		{whole(3), whole(4), 2, parts(2, 3)},
		{parts(1, 15), whole(3), 1, parts(1, 5)},
		{whole(15), parts(1, 3), 0, whole(10)},
		{parts(64, 1), whole(1), 64, parts(64, 1)},
		{parts(1024, 1), parts(1024, 1), 0, whole(1)},
		{parts(1024, 1), parts(960, 1), 64, parts(64, 1)},
		{parts(1024, ones(1280)...), parts(1024, ones(1280)...), 17, whole(1)},
		{whole(ones(1280)...), whole(1), 0, whole(ones(1280)...)},
		{whole(ones(1280)...), whole(1), 64, whole(ones(1280)...)},
		{whole(ones(1280)...), whole(power(64)...), 64, parts(64, ones(1280)...)},
		{parts(64, ones(1280)...), whole(1), 64, parts(64, ones(1280)...)},
		{parts(1024, ones(1280)...), parts(1024, 1), 0, whole(ones(1280)...)},
		{whole(power(1279)...), whole(power(1279)...), 64, whole(1)},
		{whole(power(1215)...), whole(power(1279)...), 64, parts(64, 1)},
		{whole(power(1279)...), whole(1), 64, whole(power(1279)...)},
	} {
		for _, told := range calls()[:2] {
			told.tells(t, c.a, c.b, c.k, c.want)
			told.tells(t, negated(c.a), c.b, c.k, negated(c.want))
		}
	}
}

// TestAtTheLimit has what has just room, and what has none: whole parts alone, parts too, and one more part that makes it fit.
// Each is asked below 0 too, where Floor and Ceil change places; Near stays, as none of its quotients here lies just at a half.
func TestAtTheLimit(t *testing.T) {
	all := calls()
	floor, ceil, near := all[0], all[1], all[2]
	below0 := map[string]call{"Floor": ceil, "Ceil": floor, "Near": near}
	greatest := whole(ones(1280)...)
	// 3 times 2^1278, less 1: a third of it is 2^1278, less 1/3
	treble := whole(append(full(39, top), 3<<30-1)...)
	for _, c := range []struct {
		call call
		a, b api.Dyad
		k    int
		want api.Dyad
		over bool
	}{
		{floor, greatest, parts(1, 1), 0, api.Dyad{}, true},
		{near, greatest, parts(1, 1), 0, api.Dyad{}, true},
		{floor, whole(power(1279)...), parts(1, 1), 0, api.Dyad{}, true},
		{ceil, whole(power(1279)...), parts(1, 1), 64, api.Dyad{}, true},
		{near, whole(power(1279)...), parts(1, 1), 0, api.Dyad{}, true},
		{floor, whole(power(1278)...), parts(1, 1), 0, whole(power(1279)...), false},
		{ceil, whole(power(1278)...), parts(1, 1), 64, whole(power(1279)...), false},
		{near, whole(power(1278)...), parts(1, 1), 0, whole(power(1279)...), false},
		{floor, greatest, parts(1024, 1), 64, api.Dyad{}, true},
		{near, whole(1), parts(1024, 1), 0, whole(power(1024)...), false},
		{floor, whole(power(256)...), parts(1024, 1), 0, api.Dyad{}, true},
		{floor, whole(power(255)...), parts(1024, 1), 64, whole(power(1279)...), false},
		// a whole part that fits, but not with all of its parts
		{floor, treble, whole(3), 0, whole(ones(1278)...), false},
		{floor, treble, whole(3), 1, parts(1, ones(1279)...), false},
		{floor, treble, whole(3), 2, parts(1, ones(1279)...), false},
		{floor, treble, whole(3), 3, api.Dyad{}, true},
		{floor, treble, whole(3), 64, api.Dyad{}, true},
		{ceil, treble, whole(3), 0, whole(power(1278)...), false},
		{ceil, treble, whole(3), 1, whole(power(1278)...), false},
		{ceil, treble, whole(3), 2, parts(2, ones(1280)...), false},
		{ceil, treble, whole(3), 3, parts(2, ones(1280)...), false},
		{ceil, treble, whole(3), 4, api.Dyad{}, true},
		{near, treble, whole(3), 0, whole(power(1278)...), false},
		// 2^1280 less 4/3, between the two greatest whole numbers that there are
		{floor, treble, parts(2, 3), 0, whole(append([]uint32{top - 1}, full(39, top)...)...), false},
		{ceil, treble, parts(2, 3), 0, greatest, false},
		{near, treble, parts(2, 3), 0, greatest, false},
		{floor, treble, parts(2, 3), 1, api.Dyad{}, true},
		{ceil, treble, parts(2, 3), 1, greatest, false},
		{ceil, treble, parts(2, 3), 2, api.Dyad{}, true},
		// one more part, by which all parts are a whole
		{ceil, greatest, whole(2), 0, whole(power(1279)...), false},
		{ceil, whole(ones(128)...), whole(power(64)...), 63, whole(power(64)...), false},
		{ceil, whole(ones(129)...), whole(power(65)...), 64, whole(power(64)...), false},
		{floor, whole(ones(129)...), whole(power(65)...), 64, parts(64, ones(128)...), false},
		// numbers that are as far apart as can be
		{ceil, parts(1024, 1), greatest, 64, parts(64, 1), false},
		{floor, parts(1024, 1), greatest, 64, api.Dyad{}, false},
		{near, parts(1024, 1), greatest, 0, api.Dyad{}, false},
		{floor, parts(1024, ones(1280)...), greatest, 64, api.Dyad{}, false},
		{floor, greatest, parts(1024, ones(1280)...), 64, whole(power(1024)...), false},
	} {
		mirror := below0[c.call.name]
		if c.over {
			c.call.refused(t, c.a, c.b, c.k, api.ErrOver)
			mirror.refused(t, negated(c.a), c.b, c.k, api.ErrOver)
		} else {
			c.call.tells(t, c.a, c.b, c.k, c.want)
			mirror.tells(t, negated(c.a), c.b, c.k, negated(c.want))
		}
	}
}

func TestNear(t *testing.T) {
	for _, c := range []struct {
		a, b api.Dyad
		want int64
	}{
		{dyad.Of(5), dyad.Of(2), 3}, {dyad.Of(7), dyad.Of(3), 2}, {dyad.Of(8), dyad.Of(3), 3},
		{dyad.Of(1), dyad.Of(2), 1}, {dyad.Of(-1), dyad.Of(2), 0}, {dyad.Of(-3), dyad.Of(2), -1}, {dyad.Of(3), dyad.Of(2), 2}, {dyad.Of(-5), dyad.Of(2), -2},
		{dyad.Of(1), dyad.Of(3), 0}, {dyad.Of(-1), dyad.Of(3), 0}, {dyad.Of(2), dyad.Of(3), 1}, {dyad.Of(-2), dyad.Of(3), -1},
		{dyad.Of(6), dyad.Of(3), 2}, {dyad.Of(-6), dyad.Of(3), -2}, {dyad.Of(-7), dyad.Of(3), -2}, {dyad.Of(-8), dyad.Of(3), -3},
		{parts(1, 1), whole(1), 1}, {negated(parts(1, 1)), whole(1), 0}, {parts(1, 1), parts(1, 1), 1},
		// just below a half, just above it
		{parts(1024, ones(1023)...), whole(1), 0}, {parts(1024, odd(1023)...), whole(1), 1},
		{negated(parts(1024, ones(1023)...)), whole(1), 0}, {negated(parts(1024, odd(1023)...)), whole(1), -1},
		{whole(ones(640)...), whole(power(641)...), 0}, {whole(odd(640)...), whole(power(641)...), 1}, {whole(power(640)...), whole(power(641)...), 1},
		{negated(whole(ones(640)...)), whole(power(641)...), 0}, {negated(whole(odd(640)...)), whole(power(641)...), -1}, {negated(whole(power(640)...)), whole(power(641)...), 0},
		{whole(power(640)...), whole(odd(641)...), 0}, {whole(power(640)...), whole(ones(641)...), 1}, {negated(whole(power(640)...)), whole(ones(641)...), -1}, {negated(whole(power(640)...)), whole(odd(641)...), 0},
		{whole(7), whole(top), 0}, {whole(1 << 31), whole(top), 1}, {whole(1<<31 - 1), whole(top), 0}, {dyad.Of(math.MinInt64), whole(1), math.MinInt64},
	} {
		calls()[2].tells(t, c.a, c.b, 0, dyad.Of(c.want))
	}
}

// P3.2

// TestMemory writes over all that is answered, and then looks at what was handed in (also at what lies behind it), and at what the same call answers once more.
func TestMemory(t *testing.T) {
	const mark = 0xa5a5a5a5
	handIn := func(a api.Dyad) (api.Dyad, []uint32) {
		all := append(slices.Clone(a.Limbs), full(50, mark)...)
		return api.Dyad{Neg: a.Neg, Limbs: all[:len(a.Limbs)], Exp: a.Exp}, all
	}
	untouched := func(all []uint32, a api.Dyad) bool {
		return slices.Equal(all, append(slices.Clone(a.Limbs), full(50, mark)...))
	}
	all := append(pool(), unfit()[:8]...)
	for _, c := range calls() {
		for _, a := range all {
			for _, b := range all {
				x, allX := handIn(a)
				y, allY := handIn(b)
				got, e := c.do(x, y, 1)
				want := cloned(got)
				for i := range got.Limbs[:cap(got.Limbs)] {
					got.Limbs[:cap(got.Limbs)][i] ^= top
				}
				if !untouched(allX, a) || !untouched(allY, b) {
					t.Fatalf("%s of %s and %s: what was handed in is changed", c.name, short(a), short(b))
				}
				if again, f := c.do(a, b, 1); f != e || !equal(again, want) {
					t.Fatalf("%s of %s and %s: another answer, the second time", c.name, short(a), short(b))
				}
			}
		}
	}
}

// TestOneNumberTwice hands in the same memory in both places.
func TestOneNumberTwice(t *testing.T) {
	for _, c := range calls() {
		for _, a := range divisors() {
			want := cloned(a)
			for _, k := range c.bands(0, 5, 64) {
				c.tells(t, a, a, k, whole(1))
			}
			if !equal(a, want) {
				t.Errorf("%s of one number twice: it is changed, %s", c.name, short(want))
			}
		}
	}
}

// P3.3

func TestBandsHold(t *testing.T) {
	for _, a := range pool() {
		for _, b := range divisors() {
			for _, k := range []int{0, 3, 64} {
				low, e := ratio.Floor(a, b, k)
				high, f := ratio.Ceil(a, b, k)
				if e != api.OK || f != api.OK {
					continue
				}
				told := new(big.Int).Lsh(great(a), scale)
				part := parts(k, 1)
				next := new(big.Int).Add(times(low, b), times(part, b))
				if times(low, b).Cmp(told) > 0 || next.Cmp(told) <= 0 {
					t.Errorf("%s / %s, k %d: not down to %s", short(a), short(b), k, short(low))
				}
				apart := new(big.Int).Sub(great(high), great(low))
				justSo := times(low, b).Cmp(told) == 0
				if justSo != (apart.Sign() == 0) || !justSo && apart.Cmp(great(part)) != 0 {
					t.Errorf("%s / %s, k %d: from %s to %s", short(a), short(b), k, short(low), short(high))
				}
			}
		}
	}
}

// TestSmallBandsHold holds what is told against itself by the calls of dyad alone: floors of whole divisors, added up that many times.
func TestSmallBandsHold(t *testing.T) {
	sum := func(x api.Dyad, times int) api.Dyad {
		var out api.Dyad
		for range times {
			out, _ = dyad.Add(out, x)
		}
		return out
	}
	for n := int64(-40); n <= 40; n++ {
		for d := 1; d <= 12; d++ {
			for _, k := range []int{0, 1, 2, 5, 64} {
				a, part := dyad.Of(n), parts(k, 1)
				low, e := ratio.Floor(a, dyad.Of(int64(d)), k)
				high, f := ratio.Ceil(a, dyad.Of(int64(d)), k)
				next, _ := dyad.Add(low, part)
				below, _ := dyad.Cmp(sum(low, d), a)
				above, _ := dyad.Cmp(sum(next, d), a)
				if e != api.OK || f != api.OK || below > 0 || above <= 0 {
					t.Errorf("%d / %d, k %d: not down to %s", n, d, k, short(low))
				}
				if below == 0 && !dyad.Same(low, high) || below < 0 && !dyad.Same(next, high) {
					t.Errorf("%d / %d, k %d: from %s to %s", n, d, k, short(low), short(high))
				}
			}
		}
	}
}

func TestExamples(t *testing.T) {
	all := calls()
	floor, ceil, near := all[0], all[1], all[2]
	floor.tells(t, dyad.Of(1), dyad.Of(3), 2, parts(2, 1))
	ceil.tells(t, dyad.Of(1), dyad.Of(3), 2, parts(1, 1))
	floor.tells(t, dyad.Of(-1), dyad.Of(3), 0, dyad.Of(-1))
	ceil.tells(t, dyad.Of(-1), dyad.Of(3), 0, api.Dyad{})
	near.tells(t, dyad.Of(5), dyad.Of(2), 0, dyad.Of(3))
	near.tells(t, dyad.Of(7), dyad.Of(3), 0, dyad.Of(2))
}
