package mass_test

import (
	"fmt"
	"math"
	"math/big"
	"slices"
	"testing"

	"headcount/api"
	"headcount/mass"
)

// P6.1

func TestCheck(t *testing.T) {
	for i, m := range pool() {
		if e := mass.Check(m); e != api.OK {
			t.Errorf("Check of %d: %d", i, int(e))
		}
	}
	for i, m := range unfitMasses() {
		if e := mass.Check(m); e != api.ErrBad {
			t.Errorf("Check of %d, that may not be: %d", i, int(e))
		}
	}
}

// TestCheckOfOnePart has each of the parts, alone, as what may not be, among others of all kinds.
func TestCheckOfOnePart(t *testing.T) {
	for _, m := range pool() {
		for place := range 4 {
			for _, a := range []api.Dyad{{Neg: true}, whole(0), parts(1), parts(1, 2), parts(-1, 1), parts(1025, 1), whole(full(41, 1)...)} {
				if e := mass.Check(with(m, place, a)); e != api.ErrBad {
					t.Errorf("Check of %v, whose %s is %v: %d", brief(m), names[place], brief(alone(0, a)).S, int(e))
				}
			}
		}
	}
}

func TestSeed(t *testing.T) {
	for _, x := range []int{0, 1, 2, 3, 6, 255, 256, 65535, 65536, 1<<30 - 1, 1 << 30, maxValue - 1, maxValue} {
		for _, n := range []int{x, -x} {
			var value api.Dyad
			if x > 0 {
				value = api.Dyad{Neg: n < 0, Limbs: []uint32{uint32(x)}}
			}
			m, e := mass.Seed(n, true)
			answered(t, fmt.Sprint("Seed, first, of ", n), m, e, api.Mass{S: value, W: whole(1), C: whole(1), A: value}, api.OK)
			m, e = mass.Seed(n, false)
			answered(t, fmt.Sprint("Seed of ", n), m, e, api.Mass{S: value, W: whole(1), A: value}, api.OK)
		}
	}
}

func TestSeedOfNoValue(t *testing.T) {
	for _, x := range []int{maxValue + 1, maxValue + 2, 1<<32 - 1, 1 << 32, 1<<32 + 6, 1<<33 - 1, math.MaxInt - 1, math.MaxInt} {
		for _, first := range []bool{true, false} {
			for _, n := range []int{x, -x, -x - 1} {
				m, e := mass.Seed(n, first)
				refused(t, fmt.Sprint("Seed of ", n), e, api.ErrArg, m)
			}
		}
	}
}

func TestSeedMayBe(t *testing.T) {
	draw := stream(5)
	for range 2000 {
		n := int(int32(draw()))
		m, e := mass.Seed(n, draw()%2 == 0)
		if e != api.OK || mass.Check(m) != api.OK || great(m.S).Cmp(great(m.A)) != 0 {
			t.Errorf("Seed of %d: %v, error %d", n, m, int(e))
		}
		if want := new(big.Int).Lsh(big.NewInt(int64(n)), scale); great(m.S).Cmp(want) != 0 {
			t.Errorf("Seed of %d: %v", n, m)
		}
	}
}

func TestSame(t *testing.T) {
	l := append(pool(), unfitMasses()...)
	for i, a := range l {
		if !mass.Same(a, a) || !mass.Same(a, copied(a)) {
			t.Errorf("Same: %d is not the same as itself", i)
		}
		for j, b := range l {
			if want := equal(a, b); mass.Same(a, b) != want {
				t.Errorf("Same of %d and %d: not %v", i, j, want)
			}
		}
	}
}

// TestSameOfOnePart has masses that differ in one part alone, by its sign, its Exp or its Limbs.
func TestSameOfOnePart(t *testing.T) {
	for _, m := range pool() {
		for place, a := range list(m) {
			for _, b := range []api.Dyad{
				{Neg: !a.Neg, Limbs: a.Limbs, Exp: a.Exp}, {Neg: a.Neg, Limbs: a.Limbs, Exp: a.Exp + 1}, {Neg: a.Neg, Limbs: append(slices.Clone(a.Limbs), 0), Exp: a.Exp}, {Neg: a.Neg, Limbs: append([]uint32{1}, a.Limbs...), Exp: a.Exp},
			} {
				if other := with(m, place, b); mass.Same(m, other) || mass.Same(other, m) {
					t.Errorf("Same: %v, whose %s differs alone", brief(m), names[place])
				}
			}
		}
	}
	if !mass.Same(api.Mass{}, all(api.Dyad{Limbs: []uint32{}})) || mass.Same(all(whole(1)), all(parts(1, 2))) || mass.Same(api.Mass{S: whole(1)}, api.Mass{W: whole(1)}) || mass.Same(api.Mass{C: whole(1)}, api.Mass{A: whole(1)}) {
		t.Error("Same: all is held against each other, each part against the same one")
	}
}

func TestTwin(t *testing.T) {
	for i, m := range append(pool(), unfitMasses()...) {
		if got := mass.Twin(m); !equal(got, m) {
			t.Errorf("Twin of %d: another one", i)
		}
	}
}

// P6.2

func TestAddAndSub(t *testing.T) {
	l := pool()
	for i, a := range l {
		for j, b := range l {
			if (i+j)%3 > 0 && i != j {
				continue
			}
			want, f := added(a, b)
			got, e := mass.Add(a, b)
			answered(t, fmt.Sprintf("Add of %d and %d", i, j), got, e, want, f)
			want, f = lessened(a, b)
			got, e = mass.Sub(a, b)
			answered(t, fmt.Sprintf("Sub of %d and %d", i, j), got, e, want, f)
		}
	}
}

// TestSumsAtTheLimit has each part alone, and all of them, just in room, and just not.
func TestSumsAtTheLimit(t *testing.T) {
	below := whole(append([]uint32{top - 1}, full(39, top)...)...)
	for _, c := range []struct {
		a, b, want api.Dyad
		e          api.Errno
	}{
		{below, whole(1), greatest(), api.OK},
		{greatest(), whole(1), api.Dyad{}, api.ErrOver},
		{greatest(), greatest(), api.Dyad{}, api.ErrOver},
		{greatest(), negated(greatest()), api.Dyad{}, api.OK},
		{greatest(), negated(whole(1)), below, api.OK},
		{greatest(), api.Dyad{}, greatest(), api.OK},
		{greatest(), parts(1, 1), api.Dyad{}, api.ErrOver},
		{greatest(), least(), api.Dyad{}, api.ErrOver},
		{parts(1024, full(40, top)...), least(), whole(power(256)...), api.OK},
		{parts(1024, full(40, top)...), whole(1), api.Dyad{}, api.ErrOver},
		{whole(power(256)...), negated(least()), parts(1024, full(40, top)...), api.OK},
		{whole(power(256)...), least(), api.Dyad{}, api.ErrOver},
	} {
		for place := range 4 {
			other := all(parts(2, 7))
			a, b := with(other, place, c.a), with(other, place, c.b)
			want := with(all(parts(1, 7)), place, c.want)
			name := fmt.Sprintf("%s, %v and %v", names[place], brief(alone(0, c.a)).S, brief(alone(0, c.b)).S)
			got, e := mass.Add(a, b)
			answered(t, "Add of "+name, got, e, want, c.e)
			got, e = mass.Sub(a, negatedMass(b))
			answered(t, "Sub of "+name, got, e, want, c.e)
			got, e = mass.Add(negatedMass(a), negatedMass(b))
			answered(t, "Add below 0 of "+name, got, e, negatedMass(want), c.e)
			got, e = mass.Sub(negatedMass(a), b)
			answered(t, "Sub below 0 of "+name, got, e, negatedMass(want), c.e)
		}
		got, e := mass.Add(all(c.a), all(c.b))
		answered(t, "Add of all parts", got, e, all(c.want), c.e)
	}
}

func TestNothing(t *testing.T) {
	for i, m := range pool() {
		got, e := mass.Add(m, api.Mass{})
		answered(t, fmt.Sprint("Add of 0 to ", i), got, e, m, api.OK)
		got, e = mass.Add(api.Mass{}, m)
		answered(t, fmt.Sprint("Add to 0 of ", i), got, e, m, api.OK)
		got, e = mass.Sub(m, api.Mass{})
		answered(t, fmt.Sprint("Sub of 0 from ", i), got, e, m, api.OK)
		got, e = mass.Sub(api.Mass{}, m)
		answered(t, fmt.Sprint("Sub from 0 of ", i), got, e, negatedMass(m), api.OK)
		got, e = mass.Sub(m, m)
		answered(t, fmt.Sprint("Sub from itself of ", i), got, e, api.Mass{}, api.OK)
	}
	kept, sent, e := mass.Split(api.Mass{})
	answered(t, "Split of 0, kept", kept, e, api.Mass{}, api.OK)
	answered(t, "Split of 0, sent", sent, e, api.Mass{}, api.OK)
}

func TestSplit(t *testing.T) {
	for i, m := range pool() {
		kept, sent, e := mass.Split(m)
		wantKept, wantSent, f := divided(m)
		answered(t, fmt.Sprint("Split, kept, of ", i), kept, e, wantKept, f)
		answered(t, fmt.Sprint("Split, sent, of ", i), sent, e, wantSent, f)
	}
}

// TestSplitWithoutRoom has halves that have no room: of S or of W alone they are refused, of C and of A none is asked.
func TestSplitWithoutRoom(t *testing.T) {
	for _, a := range noHalf() {
		for _, m := range []api.Mass{{}, all(whole(6)), negatedMass(all(parts(1023, 5)))} {
			for place := range 2 {
				kept, sent, e := mass.Split(with(m, place, a))
				refused(t, "Split, "+names[place], e, api.ErrOver, kept, sent)
				kept, sent, e = mass.Split(with(with(m, place, a), 1-place, greatest()))
				refused(t, "Split, "+names[place]+", and another great one", e, api.ErrOver, kept, sent)
			}
			averages := with(with(m, 2, a), 3, negated(a))
			kept, sent, e := mass.Split(averages)
			wantKept, wantSent, _ := divided(averages)
			answered(t, "Split, C and A without halves, kept", kept, e, wantKept, api.OK)
			answered(t, "Split, C and A without halves, sent", sent, e, wantSent, api.OK)
		}
		kept, sent, e := mass.Split(all(a))
		refused(t, "Split, all parts", e, api.ErrOver, kept, sent)
	}
	kept, sent, e := mass.Split(api.Mass{S: parts(1023, 1), W: parts(1023, full(40, top)...)})
	want := api.Mass{S: least(), W: parts(1024, full(40, top)...)}
	answered(t, "Split, just in room, kept", kept, e, want, api.OK)
	answered(t, "Split, just in room, sent", sent, e, want, api.OK)
	kept, sent, e = mass.Split(all(greatest()))
	half := parts(1, full(40, top)...)
	answered(t, "Split of the greatest, kept", kept, e, api.Mass{S: half, W: half, C: greatest(), A: greatest()}, api.OK)
	answered(t, "Split of the greatest, sent", sent, e, api.Mass{S: half, W: half}, api.OK)
}

// TestBad has what may not be in each place where it can stand, also where other errors apply.
func TestBad(t *testing.T) {
	fit := []api.Mass{{}, all(whole(1)), all(greatest()), negatedMass(all(greatest())), all(least()), all(parts(1024, full(40, top)...))}
	for i, bad := range unfitMasses() {
		kept, sent, e := mass.Split(bad)
		refused(t, fmt.Sprintf("Split of %d, that may not be", i), e, api.ErrBad, kept, sent)
		for j, good := range fit {
			name := fmt.Sprintf("%d, that may not be, and %d", i, j)
			for _, l := range [][]api.Mass{{bad, good}, {good, bad}, {bad, bad}} {
				got, e := mass.Add(l[0], l[1])
				refused(t, "Add of "+name, e, api.ErrBad, got)
				got, e = mass.Sub(l[0], l[1])
				refused(t, "Sub of "+name, e, api.ErrBad, got)
				got, e = mass.Sum(l)
				refused(t, "Sum of "+name, e, api.ErrBad, got)
			}
		}
	}
}

// TestBadAheadOfOver has a part without room, and another one, ahead of it or behind it, that may not be.
func TestBadAheadOfOver(t *testing.T) {
	for over := range 4 {
		for place := range 4 {
			if place == over {
				continue
			}
			for _, a := range unfit() {
				great := alone(over, greatest())
				bad := with(great, place, a)
				for _, l := range [][]api.Mass{{great, bad}, {bad, great}} {
					got, e := mass.Add(l[0], l[1])
					refused(t, "Add", e, api.ErrBad, got)
					got, e = mass.Sub(negatedMass(l[0]), l[1])
					refused(t, "Sub", e, api.ErrBad, got)
				}
				kept, sent, e := mass.Split(with(alone(over, least()), place, a))
				refused(t, "Split", e, api.ErrBad, kept, sent)
			}
		}
	}
}

// P6.3

func TestSum(t *testing.T) {
	from := pool()
	draw := stream(41)
	for range 300 {
		l := make([]api.Mass, draw()%6)
		for i := range l {
			l[i] = from[draw()%uint64(len(from))]
		}
		want, f := summed(l)
		got, e := mass.Sum(l)
		answered(t, fmt.Sprint("Sum of ", len(l)), got, e, want, f)
	}
}

func TestSumOfOne(t *testing.T) {
	for i, m := range pool() {
		got, e := mass.Sum([]api.Mass{m})
		answered(t, fmt.Sprint("Sum of one, ", i), got, e, m, api.OK)
	}
}

func TestSumOfNone(t *testing.T) {
	for _, l := range [][]api.Mass{nil, {}, make([]api.Mass, 0, 9), make([]api.Mass, 7), make([]api.Mass, maxSum)} {
		got, e := mass.Sum(l)
		answered(t, fmt.Sprint("Sum of ", len(l), " of nothing"), got, e, api.Mass{}, api.OK)
	}
}

func TestSumOfMany(t *testing.T) {
	one := api.Mass{S: whole(top), W: parts(12, 1), C: negated(whole(0, 3)), A: parts(1024, 1)}
	l := slices.Repeat([]api.Mass{one}, maxSum)
	want := api.Mass{S: whole(top&^(1<<12-1), 1<<12-1), W: whole(1), C: negated(whole(0, 3<<12)), A: parts(1012, 1)}
	got, e := mass.Sum(l)
	answered(t, "Sum of 4,096", got, e, want, api.OK)
	got, e = mass.Sum(l[:maxSum-1])
	less, f := lessened(want, one)
	answered(t, "Sum of 4,095", got, e, less, f)
	for _, n := range []int{maxSum + 1, maxSum + 2, 2 * maxSum, 1 << 16, 1<<16 + 1} {
		got, e = mass.Sum(slices.Repeat([]api.Mass{one}, n))
		refused(t, fmt.Sprint("Sum of ", n), e, api.ErrMany, got)
		got, e = mass.Sum(make([]api.Mass, n))
		refused(t, fmt.Sprint("Sum of nothing, ", n), e, api.ErrMany, got)
	}
}

// TestSumInOrder has a sum that differs by how many masses of each kind there are, of all 4,096.
func TestSumInOrder(t *testing.T) {
	draw := stream(77)
	from := []api.Mass{
		{S: whole(5), W: parts(1, 1), C: parts(3, 7), A: negated(whole(2))}, {S: negated(parts(9, 3)), A: whole(top, 1)}, {W: parts(500, 1), C: negated(parts(1, 1))}, {S: whole(full(30, 9)...), A: parts(700, 3)}, {},
	}
	l := make([]api.Mass, maxSum)
	for i := range l {
		l[i] = from[draw()%uint64(len(from))]
	}
	want, f := summed(l)
	got, e := mass.Sum(l)
	answered(t, "Sum of 4,096 that differ", got, e, want, f)
	slices.Reverse(l)
	got, e = mass.Sum(l)
	answered(t, "Sum of them, backwards", got, e, want, f)
}

// TestSumOnItsWay has sums that leave the room on their way, in each part, though the whole would not; and the same masses in an order in which none does.
func TestSumOnItsWay(t *testing.T) {
	for place := range 4 {
		for _, c := range [][3]api.Dyad{
			{greatest(), whole(1), negated(whole(1))},
			{negated(greatest()), negated(whole(1)), whole(1)},
			{greatest(), greatest(), negated(greatest())},
			{greatest(), least(), negated(greatest())},
			{parts(1024, full(40, top)...), whole(1), negated(parts(1024, full(40, top)...))},
		} {
			l := []api.Mass{alone(place, c[0]), alone(place, c[1]), alone(place, c[2])}
			got, e := mass.Sum(l)
			refused(t, "Sum of "+names[place], e, api.ErrOver, got)
			got, e = mass.Sum(append(slices.Repeat([]api.Mass{{}}, 50), l...))
			refused(t, "Sum of others, and "+names[place], e, api.ErrOver, got)
			got, e = mass.Sum([]api.Mass{l[0], l[2], l[1]})
			want, f := summed([]api.Mass{l[0], l[2], l[1]})
			answered(t, "Sum in another order of "+names[place], got, e, want, f)
		}
		got, e := mass.Sum([]api.Mass{alone(place, greatest()), alone(place, negated(whole(1))), alone(place, whole(1))})
		answered(t, "Sum that stays in room", got, e, alone(place, greatest()), api.OK)
		got, e = mass.Sum([]api.Mass{alone(place, greatest()), alone((place+1)%4, greatest()), alone(place, negated(greatest())), alone(place, whole(1))})
		answered(t, "Sum of several parts", got, e, with(alone((place+1)%4, greatest()), place, whole(1)), api.OK)
	}
}

// TestSumErrors has ErrMany ahead of ErrBad, and that ahead of ErrOver, wherever they stand.
func TestSumErrors(t *testing.T) {
	over := slices.Repeat([]api.Mass{all(greatest())}, maxSum+1)
	got, e := mass.Sum(over)
	refused(t, "Sum of too many without room", e, api.ErrMany, got)
	got, e = mass.Sum(over[:maxSum])
	refused(t, "Sum of many without room", e, api.ErrOver, got)
	for _, at := range []int{0, 1, 2, 3, 100, maxSum - 1} {
		for place := range 4 {
			l := slices.Clone(over)
			l[at] = with(l[at], place, parts(1, 2))
			got, e := mass.Sum(l)
			refused(t, "Sum of too many, one of which may not be", e, api.ErrMany, got)
			got, e = mass.Sum(l[:maxSum])
			refused(t, "Sum of many, one of which may not be", e, api.ErrBad, got)
			got, e = mass.Sum(l[:at+1])
			refused(t, "Sum, the last of which may not be", e, api.ErrBad, got)
		}
	}
	got, e = mass.Sum(slices.Repeat([]api.Mass{all(api.Dyad{Neg: true})}, maxSum+1))
	refused(t, "Sum of too many that may not be", e, api.ErrMany, got)
	got, e = mass.Sum(slices.Repeat([]api.Mass{all(api.Dyad{Neg: true})}, maxSum))
	refused(t, "Sum of many that may not be", e, api.ErrBad, got)
}

// P6.4

// TestMemory marks what stands around and behind what is handed in, and writes over each memory of the answers in turn: nothing else may change by it.
func TestMemory(t *testing.T) {
	for _, pair := range memoryPairs() {
		for _, c := range calls() {
			in := []api.Mass{pair[0], pair[1], pair[0]}
			lists := slices.Clone(in)
			before := clonedAll(memories(in))
			first, e := c.do(in)
			if !slices.EqualFunc(in, lists, equal) || !slices.EqualFunc(memories(in), before, slices.Equal) {
				t.Fatalf("%s: what is handed in was turned", c.name)
			}
			unshared(t, c.name, memories(first), memories(in))
			again, f := c.do(in)
			third, g := c.do(in)
			if e != f || e != g || !slices.EqualFunc(again, third, equal) {
				t.Fatalf("%s: another answer", c.name)
			}
			unshared(t, c.name, append(memories(again), memories(third)...), memories(in))
		}
	}
}

// unshared writes over each of the answer's memories in turn, and fails if by it another one of them, or one of what is handed in, is turned.
func unshared(t *testing.T, name string, answer, in [][]uint32) {
	t.Helper()
	for i, memory := range answer {
		before, given := clonedAll(answer), clonedAll(in)
		scribble(memory)
		scribble(before[i])
		if !slices.EqualFunc(answer, before, slices.Equal) {
			t.Fatalf("%s: two parts of the answer share memory", name)
		}
		if !slices.EqualFunc(in, given, slices.Equal) {
			t.Fatalf("%s: it shares memory with what is handed in", name)
		}
	}
}

// memoryPairs is masses whose memories have marks behind their ends, also such whose parts are all in the same memory.
func memoryPairs() [][2]api.Mass {
	var out [][2]api.Mass
	from := dyads()
	for i, a := range from {
		b := from[(i*7+3)%len(from)]
		out = append(out, [2]api.Mass{marked(all(a)), marked(all(b))}, [2]api.Mass{marked(all(a)), {}}, [2]api.Mass{{}, marked(all(a))})
		x, y := markedDyad(a), markedDyad(b)
		one := api.Mass{S: x, W: x, C: x, A: x}
		out = append(out, [2]api.Mass{one, one}, [2]api.Mass{{S: x, W: y, C: x, A: y}, {S: y, W: x, C: y, A: x}}, [2]api.Mass{{S: x, W: x}, {C: x, A: x}}, [2]api.Mass{{C: x, A: x}, {S: y, W: y}})
	}
	for _, a := range unfit() {
		out = append(out, [2]api.Mass{marked(all(a)), marked(all(a))}, [2]api.Mass{marked(alone(3, a)), marked(alone(0, a))})
	}
	return out
}

func marked(m api.Mass) api.Mass {
	return api.Mass{S: markedDyad(m.S), W: markedDyad(m.W), C: markedDyad(m.C), A: markedDyad(m.A)}
}

func markedDyad(a api.Dyad) api.Dyad {
	n := len(a.Limbs)
	a.Limbs = append(slices.Clone(a.Limbs), 0xfeedbeef, 0, 7, 0xabad1dea)[:n]
	return a
}

func TestMemoryOfSeeds(t *testing.T) {
	for _, x := range []int{0, 1, -1, 6, maxValue, -maxValue} {
		for _, first := range []bool{true, false} {
			a, _ := mass.Seed(x, first)
			b, _ := mass.Seed(x, first)
			unshared(t, "Seed", memories([]api.Mass{a, b}), nil)
			c, _ := mass.Seed(x, first)
			d, _ := mass.Seed(x, first)
			if !equal(c, d) || equal(a, c) {
				t.Errorf("Seed of %d: it hangs on what became of another one", x)
			}
		}
	}
}

func TestMemoryOfOthers(t *testing.T) {
	for _, m := range append(pool(), unfitMasses()...) {
		a, b := marked(m), marked(m)
		before := clonedAll(memories([]api.Mass{a, b}))
		mass.Check(a)
		mass.Same(a, b)
		if !slices.EqualFunc(memories([]api.Mass{a, b}), before, slices.Equal) {
			t.Errorf("%v was turned", brief(m))
		}
	}
}

// P6.5

func TestKeptAndSentAreTheWhole(t *testing.T) {
	for i, m := range pool() {
		kept, sent, e := mass.Split(m)
		if e != api.OK {
			continue
		}
		for _, l := range [][]api.Mass{{kept, sent}, {sent, kept}} {
			got, e := mass.Add(l[0], l[1])
			answered(t, fmt.Sprint("what is kept and sent, of ", i), got, e, m, api.OK)
			got, e = mass.Sum(l)
			answered(t, fmt.Sprint("the sum of what is kept and sent, of ", i), got, e, m, api.OK)
		}
		got, e := mass.Sub(m, sent)
		answered(t, fmt.Sprint("the whole less what is sent, of ", i), got, e, kept, api.OK)
		got, e = mass.Sub(m, kept)
		answered(t, fmt.Sprint("the whole less what is kept, of ", i), got, e, sent, api.OK)
	}
}

// TestSplitOverAndOver splits what is kept till there is no room: all that was sent, and what is left, are the whole.
func TestSplitOverAndOver(t *testing.T) {
	for _, x := range []int{6, -maxValue, 0, maxValue} {
		whole, _ := mass.Seed(x, true)
		kept, sent := []api.Mass{}, []api.Mass{}
		rest := whole
		for range 1024 {
			k, s, e := mass.Split(rest)
			if e != api.OK {
				t.Fatalf("Split of %d, %d times: error %d", x, len(sent), int(e))
			}
			kept, sent, rest = append(kept, k), append(sent, s), k
		}
		_, _, e := mass.Split(rest)
		if e != api.ErrOver {
			t.Errorf("Split of %d, 1,025 times: error %d", x, int(e))
		}
		got, e := mass.Sum(append(slices.Clone(sent), rest))
		answered(t, "what was sent, and is left", got, e, whole, api.OK)
		got, e = mass.Sum(append([]api.Mass{rest}, sent...))
		answered(t, "what is left, and was sent", got, e, whole, api.OK)
		for i, k := range kept[1:] {
			got, e := mass.Add(k, sent[i+1])
			answered(t, "what was kept and sent", got, e, kept[i], api.OK)
		}
	}
}

func TestEitherWayRound(t *testing.T) {
	l := pool()
	for i, a := range l {
		for j, b := range l[:i] {
			if (i+j)%5 > 0 {
				continue
			}
			x, e := mass.Add(a, b)
			y, f := mass.Add(b, a)
			answered(t, fmt.Sprintf("Add of %d and %d", i, j), x, e, y, f)
			u, g := mass.Sum([]api.Mass{a, b})
			answered(t, fmt.Sprintf("Sum of %d and %d", i, j), u, g, x, e)
			v, h := mass.Sum([]api.Mass{b, a})
			answered(t, fmt.Sprintf("Sum of %d and %d", j, i), v, h, x, e)
		}
	}
}

// P1, P2

func TestExamples(t *testing.T) {
	six, e := mass.Seed(6, true)
	answered(t, "Seed of 6, first", six, e, api.Mass{S: whole(6), W: whole(1), C: whole(1), A: whole(6)}, api.OK)
	kept, sent, e := mass.Split(six)
	answered(t, "kept", kept, e, api.Mass{S: whole(3), W: parts(1, 1), C: whole(1), A: whole(6)}, api.OK)
	answered(t, "sent", sent, e, api.Mass{S: whole(3), W: parts(1, 1)}, api.OK)
}

// TestAnything hands in what looks like masses, and is often none; each answer may be, and each error has nothing beside it.
func TestAnything(t *testing.T) {
	draw := stream(97)
	from := append(dyads(), unfit()...)
	for range 3000 {
		l := make([]api.Mass, 2+draw()%3)
		for i := range l {
			l[i] = drawnMass(draw, from[:len(from)-int(draw()%2)*len(unfit())])
		}
		for _, c := range calls() {
			got, e := c.do(l)
			for _, m := range got {
				if e == api.OK && c.name != "Twin" && mass.Check(m) != api.OK || e != api.OK && !equal(m, api.Mass{}) {
					t.Fatalf("%s: %v, error %d", c.name, brief(m), int(e))
				}
			}
			if e != api.OK && e != api.ErrBad && e != api.ErrOver {
				t.Fatalf("%s: error %d", c.name, int(e))
			}
		}
		mass.Seed(int(draw()), draw()%2 == 0)
	}
}
