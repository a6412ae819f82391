package limb_test

import (
	"math"
	"math/big"
	"slices"
	"testing"

	"headcount/api"
	"headcount/limb"
)

// P1.1

func TestCheck(t *testing.T) {
	for _, a := range pool() {
		if e := limb.Check(a); e != api.OK {
			t.Errorf("Check(%v): %d", a, int(e))
		}
	}
	for _, a := range unfit() {
		if e := limb.Check(a); e != api.ErrBad {
			t.Errorf("Check of %d limbs: %d", len(a), int(e))
		}
	}
}

func TestOf(t *testing.T) {
	for _, c := range []struct {
		n    uint64
		want []uint32
	}{
		{0, nil}, {1, []uint32{1}}, {top, []uint32{top}}, {1 << 32, []uint32{0, 1}}, {1<<32 + 5, []uint32{5, 1}},
		{1 << 63, []uint32{0, 1 << 31}}, {math.MaxUint64, []uint32{top, top}}, {math.MaxUint64 - top, []uint32{0, top}},
	} {
		if got := limb.Of(c.n); !slices.Equal(got, c.want) {
			t.Errorf("Of(%d): %v", c.n, got)
		}
	}
	first := limb.Of(1 << 40)
	second := limb.Of(1 << 40)
	first[0], first[1] = 9, 9
	if !slices.Equal(second, []uint32{0, 256}) || !slices.Equal(limb.Of(1<<40), second) {
		t.Error("Of: two answers share memory")
	}
}

func TestSame(t *testing.T) {
	all := append(pool(), unfit()...)
	for i, a := range all {
		if !limb.Same(a, slices.Clone(a)) || !limb.Same(a, a) {
			t.Errorf("Same: %d is not the same as itself", i)
		}
		for j, b := range all {
			if want := slices.Equal(a, b); limb.Same(a, b) != want {
				t.Errorf("Same of %d and %d: not %v", i, j, want)
			}
		}
	}
	if !limb.Same(nil, []uint32{}) || limb.Same(nil, []uint32{0}) || limb.Same([]uint32{1}, []uint32{1, 0}) {
		t.Error("Same: limbs are held against each other, not numbers")
	}
}

// TestBad has what may not be in each place where it can stand, also where other errors apply.
func TestBad(t *testing.T) {
	fit := [][]uint32{nil, {1}, {0, 1}, full(40, top)}
	for _, c := range calls() {
		for _, k := range []int{0, 1, -1, math.MinInt, math.MaxInt} {
			for i, bad := range unfit() {
				asked := [][2][]uint32{{bad, bad}}
				for _, good := range fit {
					asked = append(asked, [2][]uint32{bad, good})
					if c.two {
						asked = append(asked, [2][]uint32{good, bad})
					}
				}
				for _, x := range asked {
					if got := c.do(x[0], x[1], k); !got.refused(api.ErrBad) {
						t.Errorf("%s with limbs %d that may not be: %v", c.name, i, got)
					}
				}
			}
		}
	}
}

// P1.2

func TestCmp(t *testing.T) {
	for _, a := range pool() {
		for _, b := range pool() {
			if got, e := limb.Cmp(a, b); e != api.OK || got != great(a).Cmp(great(b)) {
				t.Errorf("Cmp(%v, %v): %d, error %d", a, b, got, int(e))
			}
		}
	}
	for _, c := range []struct {
		a, b []uint32
		want int
	}{
		{nil, []uint32{1}, -1}, {[]uint32{1}, nil, 1}, {nil, nil, 0},
		{[]uint32{top}, []uint32{0, 1}, -1}, {[]uint32{0, 2}, []uint32{top, 1}, 1}, {[]uint32{1, 1}, []uint32{2, 1}, -1},
		{power(1279), full(39, top), 1}, {full(40, top), full(40, top), 0},
	} {
		if got, e := limb.Cmp(c.a, c.b); got != c.want || e != api.OK {
			t.Errorf("Cmp(%v, %v): %d, error %d", c.a, c.b, got, int(e))
		}
	}
}

func TestAddAndMul(t *testing.T) {
	for _, a := range pool() {
		for _, b := range pool() {
			x, y := great(a), great(b)
			sum, e := limb.Add(a, b)
			must(t, "Add", sum, e, new(big.Int).Add(x, y))
			product, e := limb.Mul(a, b)
			must(t, "Mul", product, e, new(big.Int).Mul(x, y))
		}
	}
}

func TestSumsAndProductsAtTheLimit(t *testing.T) {
	greatest := full(40, top)
	almost := append([]uint32{top - 1}, full(39, top)...)
	for _, c := range []struct {
		name string
		do   func(a, b []uint32) ([]uint32, api.Errno)
		a, b []uint32
		want []uint32
		e    api.Errno
	}{
		{"Add", limb.Add, almost, []uint32{1}, greatest, api.OK},
		{"Add", limb.Add, greatest, []uint32{1}, nil, api.ErrOver},
		{"Add", limb.Add, []uint32{1}, greatest, nil, api.ErrOver},
		{"Add", limb.Add, greatest, greatest, nil, api.ErrOver},
		{"Add", limb.Add, greatest, nil, greatest, api.OK},
		{"Add", limb.Add, power(1279), power(1279), nil, api.ErrOver},
		{"Add", limb.Add, full(39, top), []uint32{1}, append(full(39, 0), 1), api.OK},
		{"Mul", limb.Mul, greatest, []uint32{1}, greatest, api.OK},
		{"Mul", limb.Mul, greatest, []uint32{2}, nil, api.ErrOver},
		{"Mul", limb.Mul, greatest, greatest, nil, api.ErrOver},
		{"Mul", limb.Mul, greatest, nil, nil, api.OK},
		{"Mul", limb.Mul, nil, greatest, nil, api.OK},
		{"Mul", limb.Mul, power(640), power(639), power(1279), api.OK},
		{"Mul", limb.Mul, power(640), power(640), nil, api.ErrOver},
		{"Mul", limb.Mul, full(20, top), full(20, top), append(append([]uint32{1}, full(19, 0)...), append([]uint32{top - 1}, full(19, top)...)...), api.OK},
	} {
		if got, e := c.do(c.a, c.b); e != c.e || !slices.Equal(got, c.want) {
			t.Errorf("%s(%v, %v): %v, error %d", c.name, c.a, c.b, got, int(e))
		}
	}
}

func TestSub(t *testing.T) {
	for _, a := range pool() {
		for _, b := range pool() {
			want := new(big.Int).Sub(great(a), great(b))
			got, e := limb.Sub(a, b)
			if want.Sign() >= 0 {
				must(t, "Sub", got, e, want)
			} else if e != api.ErrSign || len(got) > 0 {
				t.Errorf("Sub(%v, %v): %v, error %d", a, b, got, int(e))
			}
		}
	}
	if got, e := limb.Sub(power(1248), []uint32{1}); e != api.OK || !slices.Equal(got, full(39, top)) {
		t.Error("a borrow through all limbs:", got, int(e))
	}
}

func TestDiv(t *testing.T) {
	for _, a := range pool() {
		for _, b := range pool() {
			q, r, e := limb.Div(a, b)
			if len(b) == 0 {
				if e != api.ErrArg || len(q) > 0 || len(r) > 0 {
					t.Errorf("Div(%v, 0): %v, %v, error %d", a, q, r, int(e))
				}
				continue
			}
			often, left := new(big.Int).QuoRem(great(a), great(b), new(big.Int))
			must(t, "Div, how often", q, e, often)
			must(t, "Div, what is left", r, e, left)
		}
	}
}

// P1.3

func TestLeftAndRight(t *testing.T) {
	for _, a := range pool() {
		for _, k := range shifts() {
			// Behind 5,000 nothing changes any more, and the reckoning that this is held against would need too much memory.
			far := uint(min(k, 5000))
			got, e := limb.Left(a, k)
			must(t, "Left", got, e, new(big.Int).Lsh(great(a), far))
			got, e = limb.Right(a, k)
			must(t, "Right", got, e, new(big.Int).Rsh(great(a), far))
		}
	}
}

func TestShiftsAtTheLimit(t *testing.T) {
	for _, c := range []struct {
		a    []uint32
		k    int
		want []uint32
		e    api.Errno
	}{
		{[]uint32{1}, 1279, power(1279), api.OK},
		{[]uint32{1}, 1280, nil, api.ErrOver},
		{[]uint32{3}, 1278, append(full(39, 0), 3<<30), api.OK},
		{[]uint32{3}, 1279, nil, api.ErrOver},
		{full(40, top), 0, full(40, top), api.OK},
		{full(40, top), 1, nil, api.ErrOver},
		{full(39, top), 32, append([]uint32{0}, full(39, top)...), api.OK},
		{nil, math.MaxInt, nil, api.OK},
	} {
		if got, e := limb.Left(c.a, c.k); e != c.e || !slices.Equal(got, c.want) {
			t.Errorf("Left(%v, %d): %v, error %d", c.a, c.k, got, int(e))
		}
	}
}

func TestShiftsBelow0(t *testing.T) {
	for _, a := range pool() {
		for _, k := range []int{-1, -2, -32, -1280, math.MinInt32, math.MinInt + 1, math.MinInt} {
			if got, e := limb.Left(a, k); e != api.ErrArg || len(got) > 0 {
				t.Errorf("Left(%v, %d): %v, error %d", a, k, got, int(e))
			}
			if got, e := limb.Right(a, k); e != api.ErrArg || len(got) > 0 {
				t.Errorf("Right(%v, %d): %v, error %d", a, k, got, int(e))
			}
		}
	}
}

func TestBitsAndLow(t *testing.T) {
	for _, a := range pool() {
		if got, e := limb.Bits(a); e != api.OK || got != great(a).BitLen() {
			t.Errorf("Bits(%v): %d, error %d", a, got, int(e))
		}
		if got, e := limb.Low(a); e != api.OK || got != int(great(a).TrailingZeroBits()) {
			t.Errorf("Low(%v): %d, error %d", a, got, int(e))
		}
	}
	for k := range 1280 {
		if got, e := limb.Bits(power(k)); e != api.OK || got != k+1 {
			t.Errorf("Bits of 2^%d: %d, error %d", k, got, int(e))
		}
		if got, e := limb.Low(power(k)); e != api.OK || got != k {
			t.Errorf("Low of 2^%d: %d, error %d", k, got, int(e))
		}
	}
}

// P1.4

// TestMemory writes over all that is answered, and then looks at what was handed in (also at what lies behind it), at the other answers, and at what the same call answers once more.
func TestMemory(t *testing.T) {
	const mark = 0xa5a5a5a5
	handIn := func(a []uint32) (in, whole []uint32) {
		whole = append(slices.Clone(a), full(50, mark)...)
		return whole[:len(a)], whole
	}
	untouched := func(whole, a []uint32) bool {
		return slices.Equal(whole, append(slices.Clone(a), full(50, mark)...))
	}
	for _, c := range calls() {
		ks := []int{0}
		if c.shift {
			ks = append(ks, 1, 32, 40, -1, 2000)
		}
		for _, k := range ks {
			for _, a := range append(pool(), unfit()[:11]...) {
				for _, b := range append(pool(), unfit()[:11]...) {
					x, wholeX := handIn(a)
					y, wholeY := handIn(b)
					got := c.do(x, y, k)
					want := got.twin()
					limb.Check(x)
					limb.Same(x, y)
					for i, l := range got.lists {
						all := l[:cap(l)]
						for j := range all {
							all[j] = ^all[j]
						}
						for j, other := range got.lists[i+1:] {
							if !slices.Equal(other, want.lists[i+1+j]) {
								t.Fatalf("%s(%v, %v, %d): two answers share memory", c.name, a, b, k)
							}
						}
					}
					if !untouched(wholeX, a) || !untouched(wholeY, b) {
						t.Fatalf("%s(%v, %v, %d): what was handed in is changed", c.name, a, b, k)
					}
					if !c.do(a, b, k).same(want) {
						t.Fatalf("%s(%v, %v, %d): another answer, the second time", c.name, a, b, k)
					}
					if !c.two {
						break
					}
				}
			}
		}
	}
}

// TestOneNumberTwice hands in the same memory in both places.
func TestOneNumberTwice(t *testing.T) {
	for _, c := range calls() {
		for _, a := range pool() {
			whole := slices.Clone(a)
			if !c.do(a, a, 3).same(c.do(a, slices.Clone(a), 3)) || !slices.Equal(a, whole) {
				t.Errorf("%s(%v) of one number twice", c.name, a)
			}
		}
	}
}

// P1.5

func TestEitherWayRound(t *testing.T) {
	for _, c := range calls() {
		if c.name != "Add" && c.name != "Mul" {
			continue
		}
		for _, a := range pool() {
			for _, b := range pool() {
				if !c.do(a, b, 0).same(c.do(b, a, 0)) {
					t.Errorf("%s(%v, %v): another answer the other way round", c.name, a, b)
				}
			}
		}
	}
}

func TestWhatIsUndone(t *testing.T) {
	for _, a := range pool() {
		for _, b := range pool() {
			if sum, e := limb.Add(a, b); e == api.OK {
				if back, e := limb.Sub(sum, b); e != api.OK || !limb.Same(back, a) {
					t.Errorf("%v and %v, less the second one: %v, error %d", a, b, back, int(e))
				}
			}
			if q, r, e := limb.Div(a, b); e == api.OK {
				p, e1 := limb.Mul(q, b)
				back, e2 := limb.Add(p, r)
				if e1 != api.OK || e2 != api.OK || !limb.Same(back, a) {
					t.Errorf("%v / %v, times that, and what is left: %v", a, b, back)
				}
				if c, e := limb.Cmp(r, b); c != -1 || e != api.OK {
					t.Errorf("%v / %v: %v is left", a, b, r)
				}
			}
		}
		for _, k := range shifts() {
			if up, e := limb.Left(a, k); e == api.OK {
				if back, e := limb.Right(up, k); e != api.OK || !limb.Same(back, a) {
					t.Errorf("%v, %d to the left and to the right: %v, error %d", a, k, back, int(e))
				}
			}
		}
	}
}

func TestExamples(t *testing.T) {
	big32 := limb.Of(1 << 32)
	if !limb.Same(big32, []uint32{0, 1}) {
		t.Error("2^32:", big32)
	}
	if less, e := limb.Sub(big32, limb.Of(1)); e != api.OK || !limb.Same(less, []uint32{top}) {
		t.Error("2^32 less 1:", less, int(e))
	}
	if q, r, e := limb.Div(limb.Of(10), limb.Of(3)); e != api.OK || !limb.Same(q, limb.Of(3)) || !limb.Same(r, limb.Of(1)) {
		t.Error("10 / 3:", q, r, int(e))
	}
	if n, e := limb.Low(limb.Of(12)); e != api.OK || n != 2 {
		t.Error("Low of 12:", n, int(e))
	}
	if n, e := limb.Bits(limb.Of(12)); e != api.OK || n != 4 {
		t.Error("Bits of 12:", n, int(e))
	}
}
