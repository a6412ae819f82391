package push_test

import (
	"fmt"
	"math"
	"math/big"
	"slices"
	"testing"

	"headcount/api"
	"headcount/mass"
	"headcount/push"
)

// P15.1

func TestCheck(t *testing.T) {
	for i, m := range shares() {
		if e := push.Check(m); e != api.OK {
			t.Errorf("Check of %d, %v: %d", i, brief(m), int(e))
		}
	}
}

// TestBad has what may not be in each place where it can stand, also where other errors apply.
func TestBad(t *testing.T) {
	for i, m := range unfit() {
		refused(t, fmt.Sprintf("%d, that may not be, %v", i, brief(m)), m, api.ErrBad)
	}
}

// TestSharesByHand has the parts of which it hangs whether a share may be, each alone.
func TestSharesByHand(t *testing.T) {
	for _, c := range []struct {
		name string
		m    api.Mass
		e    api.Errno
	}{
		{"nothing", api.Mass{}, api.OK},
		{"averages alone", api.Mass{C: negated(whole(1)), A: whole(1)}, api.OK},
		{"a weight without a sum", api.Mass{W: least()}, api.OK},
		{"a sum below 0", api.Mass{S: negated(whole(1)), W: whole(1)}, api.OK},
		{"a sum without weight", api.Mass{S: least()}, api.ErrBad},
		{"a sum below 0 without weight", api.Mass{S: negated(least())}, api.ErrBad},
		{"a weight below 0", api.Mass{W: negated(least())}, api.ErrBad},
		{"both below 0", api.Mass{S: negated(whole(1)), W: negated(whole(1))}, api.ErrBad},
		{"0 that is below 0, as a weight", api.Mass{W: api.Dyad{Neg: true}}, api.ErrBad},
		{"an unfit C", api.Mass{S: whole(1), W: whole(1), C: parts(1, 2)}, api.ErrBad},
		{"an unfit A", api.Mass{S: whole(1), W: whole(1), A: whole(0)}, api.ErrBad},
	} {
		if e := push.Check(c.m); e != c.e {
			t.Errorf("Check of %s: %d", c.name, int(e))
		}
	}
}

func TestGive(t *testing.T) {
	for i, m := range shares() {
		kept, sent, e := gift(m)
		give(t, fmt.Sprint(i), m, kept, sent, e)
		if e == api.OK {
			if push.Check(kept) != api.OK || push.Check(sent) != api.OK {
				t.Errorf("Give of %d: what may not be as a share", i)
			}
		}
	}
}

// TestGiveWithoutWeight has all that may be without weight, whatever its averages are.
func TestGiveWithoutWeight(t *testing.T) {
	for _, a := range append(dyads(), api.Dyad{}) {
		give(t, "no weight", api.Mass{C: a, A: negated(a)}, api.Mass{}, api.Mass{}, api.ErrNone)
	}
}

// TestGiveWithoutRoom has halves without room: of S or of W they are refused, of C and A none is asked.
func TestGiveWithoutRoom(t *testing.T) {
	for _, a := range []api.Dyad{least(), parts(1024, 3), finest(), parts(1024, 1, 1)} {
		for _, b := range []api.Dyad{a, whole(6), greatest(), parts(1023, 1)} {
			give(t, "a weight", share(b, a), api.Mass{}, api.Mass{}, api.ErrOver)
			give(t, "a weight, with a sum below 0", share(negated(b), a), api.Mass{}, api.Mass{}, api.ErrOver)
			give(t, "a sum", share(a, b), api.Mass{}, api.Mass{}, api.ErrOver)
			give(t, "a sum below 0", share(negated(a), b), api.Mass{}, api.Mass{}, api.ErrOver)
		}
		give(t, "a weight alone", api.Mass{W: a}, api.Mass{}, api.Mass{}, api.ErrOver)
		m := api.Mass{S: whole(6), W: whole(1), C: a, A: negated(a)}
		give(t, "averages", m, api.Mass{S: whole(3), W: parts(1, 1), C: a, A: negated(a)}, api.Mass{S: whole(3), W: parts(1, 1)}, api.OK)
	}
	give(t, "what has just room", api.Mass{S: negated(parts(1023, 1)), W: parts(1023, greatest().Limbs...)}, api.Mass{S: negated(least()), W: finest()}, api.Mass{S: negated(least()), W: finest()}, api.OK)
}

func TestTake(t *testing.T) {
	l := shares()
	draw := stream(31)
	for i, m := range l {
		for range 12 {
			j := draw(len(l))
			want, e := taken(m, l[j])
			take(t, fmt.Sprintf("%d and %d", i, j), m, l[j], want, e)
			if e == api.OK && push.Check(want) != api.OK {
				t.Errorf("Take of %d and %d: what may not be as a share", i, j)
			}
		}
		want, e := taken(m, m)
		take(t, fmt.Sprint(i, " twice"), m, m, want, e)
		take(t, fmt.Sprint("nothing by ", i), m, api.Mass{}, m, api.OK)
		take(t, fmt.Sprint(i, " by nothing"), api.Mass{}, m, api.Mass{S: m.S, W: m.W}, api.OK)
	}
}

// TestTakeWithoutRoom has S alone and W alone just in room, and just not.
func TestTakeWithoutRoom(t *testing.T) {
	below := whole(append([]uint32{top - 1}, greatest().Limbs[1:]...)...)
	for _, c := range []struct {
		a, b, want api.Dyad
		e          api.Errno
	}{
		{below, whole(1), greatest(), api.OK},
		{greatest(), whole(1), api.Dyad{}, api.ErrOver},
		{greatest(), greatest(), api.Dyad{}, api.ErrOver},
		{greatest(), least(), api.Dyad{}, api.ErrOver},
		{finest(), least(), power(256), api.OK},
		{finest(), whole(1), api.Dyad{}, api.ErrOver},
		{power(1279), power(1279), api.Dyad{}, api.ErrOver},
		{power(1278), power(1278), power(1279), api.OK},
	} {
		for _, pair := range [][2]api.Dyad{{c.a, c.b}, {c.b, c.a}} {
			name := fmt.Sprintf("%v and %v", briefDyad(pair[0]), briefDyad(pair[1]))
			take(t, "S "+name, share(pair[0], whole(1)), share(pair[1], whole(2)), share(c.want, whole(3)), c.e)
			take(t, "S below 0 "+name, share(negated(pair[0]), whole(1)), share(negated(pair[1]), whole(2)), share(negated(c.want), whole(3)), c.e)
			take(t, "W "+name, share(whole(5), pair[0]), share(negated(whole(3)), pair[1]), share(whole(2), c.want), c.e)
			take(t, "both "+name, share(pair[0], pair[0]), share(pair[1], pair[1]), share(c.want, c.want), c.e)
		}
	}
	take(t, "unlike signs", share(greatest(), whole(1)), share(negated(greatest()), whole(1)), share(api.Dyad{}, whole(2)), api.OK)
}

// TestTakeWithoutAverages has averages of what is sent that would have no room, or leave others: they count for nothing.
func TestTakeWithoutAverages(t *testing.T) {
	m := api.Mass{S: whole(1), W: parts(1, 1), C: greatest(), A: negated(greatest())}
	want := api.Mass{S: whole(4), W: whole(1), C: greatest(), A: negated(greatest())}
	for _, a := range append(dyads(), api.Dyad{}) {
		take(t, "averages", m, api.Mass{S: whole(3), W: parts(1, 1), C: a, A: negated(a)}, want, api.OK)
		take(t, "averages, turned", m, api.Mass{S: whole(3), W: parts(1, 1), C: negated(a), A: a}, want, api.OK)
	}
}

// P15.2

func TestMean(t *testing.T) {
	draw := stream(17)
	for i, m := range shares() {
		for _, k := range []int{0, 1, 2, 3, 31, 32, 33, 63, maxBand, draw(maxBand + 1)} {
			low, high, e := band(m, k)
			mean(t, fmt.Sprintf("%d, %v", i, brief(m)), m, k, low, high, e)
		}
	}
}

func TestMeanByEachBand(t *testing.T) {
	for _, m := range []api.Mass{share(whole(1), whole(3)), share(negated(whole(1)), whole(3)), share(parts(40, 7, 9), parts(3, 5)), share(negated(whole(0, 7)), parts(9, 11)), share(whole(8), whole(2)), share(least(), greatest()), share(negated(least()), greatest())} {
		for k := range maxBand + 1 {
			low, high, e := band(m, k)
			mean(t, fmt.Sprint(brief(m)), m, k, low, high, e)
		}
	}
}

// TestMeanErrors has a k that is none ahead of no weight, and ahead of no room.
func TestMeanErrors(t *testing.T) {
	for _, k := range []int{-1, -2, -64, maxBand + 1, maxBand + 2, 128, 1 << 32, 1<<32 + 1, -1 << 32, math.MinInt, math.MaxInt} {
		for _, m := range []api.Mass{{}, share(whole(6), whole(1)), share(greatest(), least()), {C: whole(1), A: whole(6)}, share(api.Dyad{}, whole(3))} {
			mean(t, fmt.Sprint(brief(m)), m, k, api.Dyad{}, api.Dyad{}, api.ErrArg)
		}
	}
	for k := range maxBand + 1 {
		mean(t, "no weight", api.Mass{}, k, api.Dyad{}, api.Dyad{}, api.ErrNone)
		mean(t, "averages alone", api.Mass{C: whole(1), A: whole(6)}, k, api.Dyad{}, api.Dyad{}, api.ErrNone)
		mean(t, "no room", share(greatest(), least()), k, api.Dyad{}, api.Dyad{}, api.ErrOver)
		mean(t, "no room below 0", share(negated(greatest()), least()), k, api.Dyad{}, api.Dyad{}, api.ErrOver)
	}
}

// TestMeanAtTheLimit has means of which both, one, or none has room, down and up.
func TestMeanAtTheLimit(t *testing.T) {
	three := whole(3)
	// Three times 2^1278, less 1, and more by 1: a third of them lies beside 2^1278.
	less := whole(append(slices.Repeat([]uint32{top}, 39), 3<<30-1)...)
	more := whole(append(append([]uint32{1}, make([]uint32, 38)...), 3<<30)...)
	for _, c := range []struct {
		name string
		m    api.Mass
		k    int
		e    api.Errno
	}{
		{"the greatest", share(greatest(), whole(1)), 0, api.OK},
		{"the greatest, by parts", share(greatest(), whole(1)), maxBand, api.OK},
		{"twice the greatest", share(greatest(), parts(1, 1)), 0, api.ErrOver},
		{"2^1280", share(power(1279), parts(1, 1)), 0, api.ErrOver},
		{"-2^1280", share(negated(power(1279)), parts(1, 1)), maxBand, api.ErrOver},
		{"2^1279", share(power(1278), parts(1, 1)), maxBand, api.OK},
		{"both in room", share(less, three), 2, api.OK},
		{"no room down alone", share(less, three), 3, api.ErrOver},
		{"no room either way", share(less, three), 4, api.ErrOver},
		{"both in room, below 0", share(negated(less), three), 2, api.OK},
		{"no room up alone, below 0", share(negated(less), three), 3, api.ErrOver},
		{"both in room above", share(more, three), 1, api.OK},
		{"no room above", share(more, three), 2, api.ErrOver},
	} {
		low, high, e := band(c.m, c.k)
		if e != c.e {
			t.Fatalf("%s: the test itself asks for %d", c.name, int(e))
		}
		mean(t, c.name, c.m, c.k, low, high, e)
	}
}

// P15.3

// values is values around n, as far as they are values, and the edges of all values.
func values(n int) []int {
	out := []int{-maxValue, 1 - maxValue, -1, 0, 1, maxValue - 1, maxValue}
	for x := n - 2; x <= n+2; x++ {
		if x >= -maxValue && x <= maxValue {
			out = append(out, x)
		}
	}
	return out
}

// near is a whole number near m's mean, if that is a value.
func near(m api.Mass) int {
	if len(m.W.Limbs) == 0 {
		return 0
	}
	n := new(big.Int).Div(great(m.S), great(m.W))
	if !n.IsInt64() || n.Int64() < -maxValue || n.Int64() > maxValue {
		return 0
	}
	return int(n.Int64())
}

func TestBetween(t *testing.T) {
	for i, m := range shares() {
		l := values(near(m))
		for _, low := range l {
			for _, high := range l {
				if low <= high {
					between(t, fmt.Sprintf("%d, %v", i, brief(m)), m, low, high, lies(m, low, high), api.OK)
				}
			}
		}
	}
}

// TestBetweenAtTheEdge has sums that are W times a value, and by the least part less or more, for all kinds of W.
func TestBetweenAtTheEdge(t *testing.T) {
	for _, w := range dyads() {
		for _, x := range []int{0, 1, -1, 2, 6, -7, 1 << 20, maxValue - 1, maxValue, 1 - maxValue, -maxValue} {
			edge := new(big.Int).Mul(great(w), big.NewInt(int64(x)))
			for _, off := range []*big.Int{new(big.Int), great(least()), great(whole(1))} {
				for _, n := range []*big.Int{new(big.Int).Add(edge, off), new(big.Int).Sub(edge, off)} {
					s, e := formed(n)
					if e != api.OK {
						continue
					}
					m := share(s, w)
					name := fmt.Sprint("W times ", x, ", beside it: ", brief(m))
					between(t, name, m, x, x, lies(m, x, x), api.OK)
					between(t, name, m, -maxValue, x, lies(m, -maxValue, x), api.OK)
					between(t, name, m, x, maxValue, lies(m, x, maxValue), api.OK)
				}
			}
		}
	}
}

// TestBetweenWithoutRoom has shares of which W times a value, or the mean, has no room as a dyad.
func TestBetweenWithoutRoom(t *testing.T) {
	for _, c := range []struct {
		m         api.Mass
		low, high int
		want      bool
	}{
		{share(greatest(), greatest()), 1, 1, true},
		{share(greatest(), greatest()), 0, maxValue, true},
		{share(greatest(), greatest()), 2, maxValue, false},
		{share(greatest(), greatest()), -maxValue, 0, false},
		{share(negated(greatest()), greatest()), -1, -1, true},
		{share(negated(greatest()), greatest()), -maxValue, -2, false},
		{share(greatest(), power(1279)), 1, 2, true},
		{share(greatest(), power(1279)), 2, maxValue, false},
		{share(greatest(), power(1279)), -maxValue, 1, false},
		{share(greatest(), least()), -maxValue, maxValue, false},
		{share(negated(greatest()), least()), -maxValue, maxValue, false},
		{share(least(), greatest()), 0, 1, true},
		{share(least(), greatest()), 0, 0, false},
		{share(least(), greatest()), 1, 1, false},
		{share(negated(least()), greatest()), -1, 0, true},
		{share(negated(least()), greatest()), 0, 0, false},
		{share(api.Dyad{}, greatest()), 0, 0, true},
		{share(api.Dyad{}, greatest()), 1, maxValue, false},
		{share(api.Dyad{}, greatest()), -maxValue, -1, false},
	} {
		between(t, fmt.Sprint(brief(c.m)), c.m, c.low, c.high, c.want, api.OK)
	}
}

// TestBetweenWithoutWeight has shares without weight: they lie between any two.
func TestBetweenWithoutWeight(t *testing.T) {
	for _, m := range []api.Mass{{}, {C: whole(1), A: whole(6)}, {S: api.Dyad{Limbs: []uint32{}}, W: api.Dyad{Limbs: []uint32{}}, A: negated(greatest())}} {
		for _, pair := range [][2]int{{0, 0}, {1, 1}, {-1, -1}, {2, 6}, {-6, -2}, {maxValue, maxValue}, {-maxValue, -maxValue}, {-maxValue, maxValue}} {
			between(t, "no weight", m, pair[0], pair[1], true, api.OK)
		}
	}
}

func TestBetweenErrors(t *testing.T) {
	for _, m := range []api.Mass{{}, share(whole(6), whole(1)), share(greatest(), least()), {W: whole(1)}} {
		for _, x := range []int{maxValue + 1, maxValue + 2, 1 << 32, 1<<32 + 6, 1<<33 - 1, math.MaxInt} {
			for _, n := range []int{x, -x, -x - 1} {
				for _, y := range []int{n, 0, 6, -maxValue, maxValue} {
					between(t, "no value", m, n, y, false, api.ErrArg)
					between(t, "no value", m, y, n, false, api.ErrArg)
				}
			}
		}
		for _, pair := range [][2]int{{1, 0}, {0, -1}, {7, 6}, {maxValue, -maxValue}, {maxValue, maxValue - 1}, {1 - maxValue, -maxValue}} {
			between(t, "the higher one first", m, pair[0], pair[1], false, api.ErrArg)
		}
	}
}

// P15.4

// TestMemory marks what stands behind what is handed in, and writes over each memory of the answers in turn: nothing else may change by it.
func TestMemory(t *testing.T) {
	l := append(shares(), unfit()...)
	for i, m := range l {
		a, b := marked(m), marked(l[(7*i+3)%len(l)])
		one := a.S
		for _, pair := range [][2]api.Mass{{a, b}, {b, a}, {a, a}, {share(one, a.W), {S: a.S, W: a.W, C: a.C, A: a.C}}, {{S: one, W: one, C: one, A: one}, {S: one, W: one, C: one, A: one}}} {
			unshared(t, pair)
		}
	}
}

// asked is all that the calls answer of two shares; a mean stands as a mass of its own.
func asked(pair [2]api.Mass) []api.Mass {
	kept, sent, _ := push.Give(pair[0])
	sum, _ := push.Take(pair[0], pair[1])
	low, high, _ := push.Mean(pair[0], 3)
	push.Check(pair[0])
	push.Between(pair[0], -6, 6)
	return []api.Mass{kept, sent, sum, {S: low, W: high}}
}

// unshared asks of a pair, and fails if it was turned, or if writing over one memory of the answers turns it, another answer, or one that comes later.
func unshared(t *testing.T, pair [2]api.Mass) {
	t.Helper()
	given := memories(pair[:]...)
	before := clonedAll(given)
	first, again := asked(pair), asked(pair)
	if !same(given, before) {
		t.Fatalf("what is handed in was turned: %v, %v", brief(pair[0]), brief(pair[1]))
	}
	var told []api.Mass
	for _, m := range first {
		told = append(told, marked(m))
	}
	answers := memories(append(first, again...)...)
	kept := clonedAll(answers)
	for i, memory := range answers {
		scribble(memory)
		scribble(kept[i])
		if !same(answers, kept) {
			t.Fatalf("two parts of the answers share memory: %v, %v", brief(pair[0]), brief(pair[1]))
		}
		if !same(given, before) {
			t.Fatalf("an answer shares memory with what is handed in: %v, %v", brief(pair[0]), brief(pair[1]))
		}
	}
	if !slices.EqualFunc(asked(pair), told, equal) {
		t.Fatalf("another answer: %v, %v", brief(pair[0]), brief(pair[1]))
	}
}

// P15.5

// TestTheSumStays lets shares be given, and taken at once, later, or by others: all that is held and under way is what was seeded, and lies between the least and the greatest value; so does each mean.
func TestTheSumStays(t *testing.T) {
	draw := stream(59)
	for round := range 20 {
		n := 1 + draw(8)
		low, high := drawnValues(draw, round)
		var held, away []api.Mass
		for i := range n {
			x := []int{low, high, low + draw(high-low+1)}[min(i, 2)]
			m, e := mass.Seed(x, i == 0)
			if e != api.OK {
				t.Fatal(x, int(e))
			}
			held = append(held, m)
		}
		if n == 1 {
			high = low
		}
		seeded := total(held...)
		for range 150 {
			held, away = gossip(t, draw, held, away)
			all := total(append(slices.Clone(held), away...)...)
			if all[0].Cmp(seeded[0]) != 0 || all[1].Cmp(seeded[1]) != 0 {
				t.Fatalf("round %d: what is held and under way is not what was seeded", round)
			}
			sound(t, append(slices.Clone(held), away...), low, high)
		}
	}
}

// drawnValues is a lower and a higher value, far apart or near.
func drawnValues(draw func(below int) int, round int) (low, high int) {
	if round == 0 {
		return -maxValue, maxValue
	}
	low = draw(2*maxValue+1) - maxValue
	return low, min(low+draw(1<<(1+round%31)), maxValue)
}

// total is the sum of all S, and of all W.
func total(l ...api.Mass) [2]*big.Int {
	out := [2]*big.Int{new(big.Int), new(big.Int)}
	for _, m := range l {
		out[0].Add(out[0], great(m.S))
		out[1].Add(out[1], great(m.W))
	}
	return out
}

// gossip lets one give, or one take what is under way.
func gossip(t *testing.T, draw func(below int) int, held, away []api.Mass) ([]api.Mass, []api.Mass) {
	t.Helper()
	who := draw(len(held))
	if len(away) == 0 || len(away) < 16 && draw(2) == 0 {
		kept, sent, e := push.Give(held[who])
		if e != api.OK {
			t.Fatalf("Give of %v: %d", brief(held[who]), int(e))
		}
		held[who] = kept
		return held, append(away, sent)
	}
	i := draw(len(away))
	m, e := push.Take(held[who], away[i])
	if e != api.OK {
		t.Fatalf("Take of %v and %v: %d", brief(held[who]), brief(away[i]), int(e))
	}
	held[who] = m
	return held, slices.Delete(away, i, i+1)
}

// sound fails unless all shares, and their means, lie between low and high.
func sound(t *testing.T, l []api.Mass, low, high int) {
	t.Helper()
	for i, m := range l {
		between(t, fmt.Sprint(brief(m)), m, low, high, true, api.OK)
		down, up, e := push.Mean(m, i*9%(maxBand+1))
		if e != api.OK || great(down).Cmp(great(number(low))) < 0 || great(up).Cmp(great(number(high))) > 0 || great(down).Cmp(great(up)) > 0 {
			t.Fatalf("Mean of %v: %v, %v, error %d; it lies between %d and %d", brief(m), briefDyad(down), briefDyad(up), int(e), low, high)
		}
	}
}

// TestMeansLieBetween holds each share's mean against the values between which Between says that it lies.
func TestMeansLieBetween(t *testing.T) {
	for _, m := range shares() {
		l := values(near(m))
		for _, low := range l {
			for _, high := range l {
				is, e := push.Between(m, low, high)
				if e != api.OK || !is || len(m.W.Limbs) == 0 {
					continue
				}
				down, up, e := push.Mean(m, 7)
				if e != api.OK || great(down).Cmp(great(number(low))) < 0 || great(up).Cmp(great(number(high))) > 0 {
					t.Fatalf("Mean of %v: error %d; it lies between %d and %d", brief(m), int(e), low, high)
				}
			}
		}
	}
}

// TestSumsLieBetween has shares at one edge, taken over and over: they stay there.
func TestSumsLieBetween(t *testing.T) {
	for _, x := range []int{0, 1, -7, maxValue, -maxValue} {
		m, _ := mass.Seed(x, true)
		for range 500 {
			kept, sent, e := push.Give(m)
			if e != api.OK {
				t.Fatal(x, int(e))
			}
			between(t, "what is kept", kept, x, x, true, api.OK)
			between(t, "what is sent", sent, x, x, true, api.OK)
			take(t, "what is kept and sent", kept, sent, m, api.OK)
			mean(t, "what is kept", kept, 9, number(x), number(x), api.OK)
			m = kept
		}
	}
}

// P1, P2

func TestExamples(t *testing.T) {
	six, _ := mass.Seed(6, true)
	half := api.Mass{S: whole(3), W: parts(1, 1)}
	give(t, "6, weight 1", six, api.Mass{S: whole(3), W: parts(1, 1), C: whole(1), A: whole(6)}, half, api.OK)
	take(t, "1, weight 1/2", api.Mass{S: whole(1), W: parts(1, 1)}, half, api.Mass{S: whole(4), W: whole(1)}, api.OK)
	four := api.Mass{S: whole(4), W: whole(1)}
	mean(t, "4, weight 1", four, 0, whole(4), whole(4), api.OK)
	mean(t, "1, weight 3", api.Mass{S: whole(1), W: whole(3)}, 2, parts(2, 1), parts(1, 1), api.OK)
	between(t, "4, weight 1", four, 2, 6, true, api.OK)
	between(t, "4, weight 1", four, 5, 6, false, api.OK)
	between(t, "4, weight 1", four, 2, 3, false, api.OK)
	between(t, "4, weight 1", four, 4, 4, true, api.OK)
}

// TestAnything hands in what looks like shares, and is often none: each error is one that may be, with nothing beside it.
func TestAnything(t *testing.T) {
	draw := stream(97)
	fit := append(dyads(), api.Dyad{})
	from := append(slices.Clone(fit), unfitDyads()...)
	for range 5000 {
		l := fit
		if draw(4) == 0 {
			l = from
		}
		var drawn [2]api.Mass
		for i := range drawn {
			for place := range 4 {
				a := l[draw(len(l))]
				if draw(3) == 0 {
					a = negated(a)
				}
				drawn[i] = with(drawn[i], place, a)
			}
		}
		anything(t, drawn[0], drawn[1], draw(80)-8, draw(1<<33)-1<<32, draw(1<<33)-1<<32)
	}
}

// mayBe tells by the Words whether m may be as a share; of its parts it leans on mass.
func mayBe(m api.Mass) bool {
	return mass.Check(m) == api.OK && great(m.W).Sign() >= 0 && (great(m.W).Sign() > 0 || great(m.S).Sign() == 0)
}

func anything(t *testing.T, a, b api.Mass, k, low, high int) {
	t.Helper()
	name := fmt.Sprintf("%v, %v", brief(a), brief(b))
	var kept, sent, sum api.Mass
	var down, up api.Dyad
	g, s, m, h := api.ErrBad, api.ErrBad, api.ErrBad, api.ErrBad
	is := false
	if mayBe(a) {
		kept, sent, g = gift(a)
		m, h = api.ErrArg, api.ErrArg
		if k >= 0 && k <= maxBand {
			down, up, m = band(a, k)
		}
		if -maxValue <= low && low <= high && high <= maxValue {
			is, h = lies(a, low, high), api.OK
		}
		if mayBe(b) {
			sum, s = taken(a, b)
		}
	}
	if (push.Check(a) == api.OK) != mayBe(a) {
		t.Errorf("Check of %s", name)
	}
	give(t, name, a, kept, sent, g)
	take(t, name, a, b, sum, s)
	mean(t, name, a, k, down, up, m)
	between(t, name, a, low, high, is, h)
}
