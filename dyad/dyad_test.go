package dyad_test

import (
	"math"
	"math/big"
	"slices"
	"testing"

	"headcount/api"
	"headcount/dyad"
)

// P2.1

func TestCheck(t *testing.T) {
	for _, a := range pool() {
		if e := dyad.Check(a); e != api.OK {
			t.Errorf("Check(%v): %d", a, int(e))
		}
	}
	for _, a := range unfit() {
		if e := dyad.Check(a); e != api.ErrBad {
			t.Errorf("Check of Exp %d, %d limbs, Neg %v: %d", a.Exp, len(a.Limbs), a.Neg, int(e))
		}
	}
}

func TestOf(t *testing.T) {
	for _, c := range []struct {
		n    int64
		want api.Dyad
	}{
		{0, api.Dyad{}}, {1, whole(1)}, {-1, negated(whole(1))}, {2, whole(2)}, {12, whole(12)}, {-12, negated(whole(12))},
		{top, whole(top)}, {-top, negated(whole(top))}, {1 << 32, whole(0, 1)}, {-1 << 32, negated(whole(0, 1))}, {1<<33 + 7, whole(7, 2)},
		{math.MaxInt64, whole(top, top>>1)}, {math.MinInt64 + 1, negated(whole(top, top>>1))}, {math.MinInt64, negated(whole(0, 1<<31))},
	} {
		got := dyad.Of(c.n)
		if !equal(got, c.want) || dyad.Check(got) != api.OK {
			t.Errorf("Of(%d): %v", c.n, got)
		}
	}
}

func TestSame(t *testing.T) {
	all := append(pool(), unfit()...)
	for i, a := range all {
		if !dyad.Same(a, cloned(a)) || !dyad.Same(a, a) {
			t.Errorf("Same: %d is not the same as itself", i)
		}
		for j, b := range all {
			if want := equal(a, b); dyad.Same(a, b) != want {
				t.Errorf("Same of %d and %d: not %v", i, j, want)
			}
		}
	}
	if !dyad.Same(api.Dyad{}, api.Dyad{Limbs: []uint32{}}) || dyad.Same(whole(1), parts(1, 2)) || dyad.Same(api.Dyad{}, api.Dyad{Neg: true}) || dyad.Same(api.Dyad{}, parts(1)) || dyad.Same(whole(1), whole(1, 0)) {
		t.Error("Same: all is held against each other, not numbers")
	}
}

func TestTwin(t *testing.T) {
	for i, a := range append(pool(), unfit()...) {
		want := cloned(a)
		got := dyad.Twin(a)
		if !equal(got, want) {
			t.Fatalf("Twin of %d: another one", i)
		}
		scribble(got)
		if !equal(a, want) {
			t.Fatalf("Twin of %d: it shares memory", i)
		}
	}
}

// TestBad has what may not be in each place where it can stand, also where other errors apply.
func TestBad(t *testing.T) {
	fit := []api.Dyad{{}, whole(1), whole(full(40, top)...), negated(whole(full(40, top)...)), parts(1024, full(40, top)...), parts(1024, 1), negated(parts(1, 1))}
	for _, c := range calls() {
		for i, bad := range unfit() {
			if got := c.do(bad, bad); !got.refused(api.ErrBad) {
				t.Errorf("%s of %d twice: %v", c.name, i, got)
			}
			for j, good := range fit {
				if got := c.do(bad, good); !got.refused(api.ErrBad) {
					t.Errorf("%s of %d, that may not be, and %d: %v", c.name, i, j, got)
				}
				if got := c.do(good, bad); c.two && !got.refused(api.ErrBad) {
					t.Errorf("%s of %d and %d, that may not be: %v", c.name, j, i, got)
				}
			}
		}
	}
}

// P2.2

func TestCmp(t *testing.T) {
	all := pool()
	for _, a := range all {
		for _, b := range all {
			if got, e := dyad.Cmp(a, b); e != api.OK || got != great(a).Cmp(great(b)) {
				t.Errorf("Cmp(%v, %v): %d, error %d", a, b, got, int(e))
			}
		}
	}
	for _, c := range []struct {
		a, b api.Dyad
		want int
	}{
		{api.Dyad{}, parts(1, 1), -1}, {api.Dyad{}, negated(parts(1, 1)), 1}, {parts(1024, 1), api.Dyad{}, 1}, {negated(parts(1024, 1)), api.Dyad{}, -1},
		{parts(1, 1), parts(2, 1), 1}, {parts(1, 1), parts(2, 3), -1}, {parts(1, 3), whole(1), 1}, {parts(1, 3), whole(2), -1},
		{negated(parts(1, 1)), negated(parts(2, 1)), -1}, {negated(whole(2)), whole(1), -1}, {whole(1), negated(whole(2)), 1},
		{whole(full(40, top)...), parts(1024, full(40, top)...), 1}, {whole(power(256)...), parts(1024, full(40, top)...), 1},
		{whole(full(8, top)...), parts(1024, full(40, top)...), -1}, {whole(power(1279)...), parts(1, full(40, top)...), 1},
	} {
		if got, e := dyad.Cmp(c.a, c.b); got != c.want || e != api.OK {
			t.Errorf("Cmp(%v, %v): %d, error %d", c.a, c.b, got, int(e))
		}
	}
}

func TestAddAndSub(t *testing.T) {
	all := pool()
	for _, a := range all {
		for _, b := range all {
			x, y := great(a), great(b)
			got, e := dyad.Add(a, b)
			must(t, "Add", got, e, new(big.Int).Add(x, y))
			got, e = dyad.Sub(a, b)
			must(t, "Sub", got, e, new(big.Int).Sub(x, y))
		}
	}
}

func TestHalf(t *testing.T) {
	for _, a := range pool() {
		got, e := dyad.Half(a)
		must(t, "Half", got, e, new(big.Int).Rsh(great(a), 1))
	}
}

// TestSumsAtTheLimit has what has no room, and what has, though it had none on the way: with as many digits as there can be, at one Exp and far apart.
func TestSumsAtTheLimit(t *testing.T) {
	greatest := full(40, top)
	least := parts(1024, 1)
	for i, c := range []struct {
		a, b, want api.Dyad
		e          api.Errno
	}{
		{whole(greatest...), whole(1), api.Dyad{}, api.ErrOver},
		{whole(greatest...), negated(whole(1)), whole(append([]uint32{top - 1}, full(39, top)...)...), api.OK},
		{whole(greatest...), whole(greatest...), api.Dyad{}, api.ErrOver},
		{whole(power(1279)...), whole(power(1279)...), api.Dyad{}, api.ErrOver},
		{whole(append([]uint32{top - 1}, full(39, top)...)...), whole(1), whole(greatest...), api.OK},
		// the sum has 1,281 digits, and a digit less when it is in its one form
		{parts(1, greatest...), parts(1, greatest...), whole(greatest...), api.OK},
		{parts(1024, greatest...), parts(1024, greatest...), parts(1023, greatest...), api.OK},
		{parts(1, greatest...), parts(1, 1), whole(power(1279)...), api.OK},
		{parts(1024, greatest...), least, whole(power(256)...), api.OK},
		{parts(1000, greatest...), parts(1000, 1), whole(power(280)...), api.OK},
		{parts(1024, greatest...), parts(1024, 3), parts(1023, odd(1279)...), api.OK},
		// at two Exps nothing gets shorter
		{parts(1, greatest...), whole(1), api.Dyad{}, api.ErrOver},
		{parts(2, greatest...), parts(1, 1), api.Dyad{}, api.ErrOver},
		{parts(1024, greatest...), parts(1023, 1), api.Dyad{}, api.ErrOver},
		{parts(1024, greatest...), whole(1), api.Dyad{}, api.ErrOver},
		{whole(power(255)...), least, parts(1024, odd(1279)...), api.OK},
		{whole(power(256)...), least, api.Dyad{}, api.ErrOver},
		// what is too long on the way, but not less the other one
		{whole(power(256)...), negated(least), parts(1024, greatest...), api.OK},
		{whole(power(1279)...), negated(parts(1, 1)), parts(1, greatest...), api.OK},
		{whole(odd(256)...), negated(parts(1024, greatest...)), parts(1024, odd(1024)...), api.OK},
		{whole(power(257)...), negated(parts(1024, greatest...)), api.Dyad{}, api.ErrOver},
		{whole(power(257)...), negated(least), api.Dyad{}, api.ErrOver},
		{whole(full(40, top)...), negated(least), api.Dyad{}, api.ErrOver},
		{whole(append([]uint32{top - 1}, full(7, top)...)...), least, parts(1024, append([]uint32{1}, append(full(31, 0), append([]uint32{top - 1}, full(7, top)...)...)...)...), api.OK},
		{whole(1), negated(least), parts(1024, full(32, top)...), api.OK},
		{whole(greatest...), api.Dyad{}, whole(greatest...), api.OK},
		{api.Dyad{}, parts(1024, greatest...), parts(1024, greatest...), api.OK},
	} {
		asked := [][2]answer{
			{pairOf(dyad.Add(c.a, c.b)), pairOf(c.want, c.e)},
			{pairOf(dyad.Add(c.b, c.a)), pairOf(c.want, c.e)},
			{pairOf(dyad.Sub(c.a, negated0(c.b))), pairOf(c.want, c.e)},
			{pairOf(dyad.Sub(negated0(c.a), c.b)), pairOf(negated0(c.want), c.e)},
			{pairOf(dyad.Add(negated0(c.a), negated0(c.b))), pairOf(negated0(c.want), c.e)},
		}
		for j, x := range asked {
			if !x[0].same(x[1]) {
				t.Errorf("%d, %d: Exp %d, %v, error %d", i, j, x[0].dyad.Exp, x[0].dyad.Limbs, int(x[0].e))
			}
		}
	}
}

func TestUnlikeSigns(t *testing.T) {
	for _, a := range pool() {
		if got, e := dyad.Add(a, negated0(a)); e != api.OK || !equal(got, api.Dyad{}) {
			t.Errorf("%v less itself, by Add: %v, error %d", a, got, int(e))
		}
		if got, e := dyad.Sub(a, a); e != api.OK || !equal(got, api.Dyad{}) {
			t.Errorf("%v less itself: %v, error %d", a, got, int(e))
		}
		if got, e := dyad.Sub(api.Dyad{}, a); e != api.OK || !equal(got, negated0(a)) {
			t.Errorf("0 less %v: %v, error %d", a, got, int(e))
		}
	}
	for _, c := range []struct{ a, b, want api.Dyad }{
		{parts(1, 3), negated(parts(1, 1)), whole(1)}, {parts(3, 7), negated(parts(3, 3)), parts(1, 1)}, {parts(3, 1), negated(parts(3, 3)), negated(parts(2, 1))},
		{whole(0, 1), negated(whole(1)), whole(top)}, {whole(0, 1), negated(parts(1, 1)), parts(1, top, 1)}, {parts(1, 1), negated(whole(1)), negated(parts(1, 1))},
	} {
		if got, e := dyad.Add(c.a, c.b); e != api.OK || !equal(got, c.want) {
			t.Errorf("%v and %v: %v, error %d", c.a, c.b, got, int(e))
		}
	}
}

func TestHalvesAtTheLimit(t *testing.T) {
	greatest := full(40, top)
	for _, c := range []struct {
		a, want api.Dyad
		e       api.Errno
	}{
		{parts(1024, 1), api.Dyad{}, api.ErrOver},
		{negated(parts(1024, 3)), api.Dyad{}, api.ErrOver},
		{parts(1024, greatest...), api.Dyad{}, api.ErrOver},
		{parts(1023, 1), parts(1024, 1), api.OK},
		{parts(1023, greatest...), parts(1024, greatest...), api.OK},
		{whole(greatest...), parts(1, greatest...), api.OK},
		{whole(power(1279)...), whole(power(1278)...), api.OK},
		{whole(12), whole(6), api.OK},
		{whole(0, 1), whole(1 << 31), api.OK},
		{negated(whole(0, 3)), negated(whole(1<<31, 1)), api.OK},
		{api.Dyad{}, api.Dyad{}, api.OK},
	} {
		if got := pairOf(dyad.Half(c.a)); !got.same(pairOf(c.want, c.e)) {
			t.Errorf("Half(%v): %v", c.a, got)
		}
	}
	a := dyad.Of(-7)
	for k := range 1024 {
		h, e := dyad.Half(a)
		if e != api.OK || !equal(h, negated(parts(k+1, 7))) {
			t.Fatalf("-7, halved %d times: %v, error %d", k+1, h, int(e))
		}
		a = h
	}
	if got := pairOf(dyad.Half(a)); !got.refused(api.ErrOver) {
		t.Errorf("-7, halved 1,025 times: %v", got)
	}
}

func TestOfAndSums(t *testing.T) {
	for _, m := range []int64{0, 1, -1, 2, top, 1 << 32, math.MaxInt64, math.MinInt64} {
		for _, n := range []int64{0, 1, -1, 3, -top, math.MaxInt64, math.MinInt64} {
			got, e := dyad.Add(dyad.Of(m), dyad.Of(n))
			want := new(big.Int).Add(big.NewInt(m), big.NewInt(n))
			must(t, "Add", got, e, want.Lsh(want, scale))
			if got, e := dyad.Cmp(dyad.Of(m), dyad.Of(n)); e != api.OK || got != big.NewInt(m).Cmp(big.NewInt(n)) {
				t.Errorf("Cmp of %d and %d: %d, error %d", m, n, got, int(e))
			}
		}
	}
}

// P2.3

// TestMemory writes over all that is answered, and then looks at what was handed in (also at what lies behind it), and at what the same call answers once more.
func TestMemory(t *testing.T) {
	const mark = 0xa5a5a5a5
	handIn := func(a api.Dyad) (api.Dyad, []uint32) {
		all := append(slices.Clone(a.Limbs), full(50, mark)...)
		return api.Dyad{Neg: a.Neg, Limbs: all[:len(a.Limbs)], Exp: a.Exp}, all
	}
	untouched := func(all []uint32, a api.Dyad) bool {
		return slices.Equal(all, append(slices.Clone(a.Limbs), full(50, mark)...))
	}
	one := []call{
		{"Twin", false, func(a, b api.Dyad) answer { return answer{dyad: dyad.Twin(a)} }},
		{"Check", false, func(a, b api.Dyad) answer { return answer{e: dyad.Check(a)} }},
	}
	all := append(pool(), unfit()[:8]...)
	for _, c := range append(calls(), one...) {
		for _, a := range all {
			for _, b := range all {
				x, allX := handIn(a)
				y, allY := handIn(b)
				got := c.do(x, y)
				want := answer{cloned(got.dyad), got.number, got.e}
				dyad.Same(x, y)
				scribble(got.dyad)
				if !untouched(allX, a) || !untouched(allY, b) {
					t.Fatalf("%s(%v, %v): what was handed in is changed", c.name, a, b)
				}
				if !c.do(a, b).same(want) {
					t.Fatalf("%s(%v, %v): another answer, the second time", c.name, a, b)
				}
				if !c.two {
					break
				}
			}
		}
	}
	first := dyad.Of(1 << 40)
	second := dyad.Of(1 << 40)
	scribble(first)
	if !equal(second, whole(0, 256)) || !equal(dyad.Of(1<<40), second) {
		t.Error("Of: two answers share memory")
	}
}

// TestOneNumberTwice hands in the same memory in both places.
func TestOneNumberTwice(t *testing.T) {
	for _, c := range calls() {
		for _, a := range pool() {
			want := cloned(a)
			if !c.do(a, a).same(c.do(a, cloned(a))) || !equal(a, want) {
				t.Errorf("%s(%v) of one number twice", c.name, a)
			}
		}
	}
}

// P2.4

func TestOneForm(t *testing.T) {
	all := pool()
	for _, a := range all {
		for _, b := range all {
			n, e := dyad.Cmp(a, b)
			if e != api.OK || (n == 0) != dyad.Same(a, b) {
				t.Errorf("%v and %v: the same number, or the same, but not both", a, b)
			}
		}
	}
}

func TestTwoHalves(t *testing.T) {
	for _, a := range pool() {
		h, e := dyad.Half(a)
		if e != api.OK {
			if a.Exp < 1024 {
				t.Errorf("Half(%v): error %d", a, int(e))
			}
			continue
		}
		if got, e := dyad.Add(h, h); e != api.OK || !dyad.Same(got, a) {
			t.Errorf("two halves of %v: %v, error %d", a, got, int(e))
		}
		if got, e := dyad.Sub(a, h); e != api.OK || !dyad.Same(got, h) {
			t.Errorf("%v less its half: %v, error %d", a, got, int(e))
		}
	}
}

func TestExamples(t *testing.T) {
	if a := dyad.Of(12); !dyad.Same(a, whole(12)) {
		t.Error("Of 12:", a)
	}
	if a, e := dyad.Half(dyad.Of(3)); e != api.OK || !dyad.Same(a, parts(1, 3)) {
		t.Error("half of 3:", a, int(e))
	}
	if a, e := dyad.Half(dyad.Of(2)); e != api.OK || !dyad.Same(a, whole(1)) {
		t.Error("half of 2:", a, int(e))
	}
	if a, e := dyad.Add(parts(1, 1), parts(1, 1)); e != api.OK || !dyad.Same(a, whole(1)) {
		t.Error("1/2 and 1/2:", a, int(e))
	}
	if a, e := dyad.Sub(parts(1, 1), parts(2, 3)); e != api.OK || !dyad.Same(a, negated(parts(2, 1))) {
		t.Error("1/2 less 3/4:", a, int(e))
	}
}
