package flight_test

import (
	"fmt"
	"math"
	"math/big"
	"slices"
	"testing"

	"headcount/api"
	"headcount/flight"
)

const (
	top       = math.MaxUint32
	maxNumber = 1048575
	maxEpoch  = 65535
	maxFly    = 16
)

// scale is above each Exp that may be, so that all dyads are whole parts of 2^-scale.
const scale = 1100

// stream is numbers that look as if drawn, the same ones each time.
func stream(x uint64) func(below int) int {
	return func(below int) int {
		x ^= x << 13
		x ^= x >> 7
		x ^= x << 17
		return int(x % uint64(below))
	}
}

// Dyads and masses

func whole(limbs ...uint32) api.Dyad          { return api.Dyad{Limbs: limbs} }
func parts(exp int, limbs ...uint32) api.Dyad { return api.Dyad{Limbs: limbs, Exp: exp} }

// negated is a with its sign turned; 0 has none.
func negated(a api.Dyad) api.Dyad {
	a.Neg = !a.Neg && len(a.Limbs) > 0
	return a
}

// greatest is the greatest dyad that may be, and least the least one above 0.
func greatest() api.Dyad { return whole(slices.Repeat([]uint32{top}, 40)...) }
func least() api.Dyad    { return parts(1024, 1) }

// fitDyads is dyads that may be, of both signs, with the edges of Limbs and Exp.
func fitDyads() []api.Dyad {
	out := []api.Dyad{whole(1), whole(6), whole(7), whole(top), whole(0, 1), whole(5, 0, 9), parts(1, 1), parts(2, 3), parts(300, 1, 2), least(), parts(1024, 3), greatest(), parts(1024, greatest().Limbs...)}
	for _, a := range slices.Clone(out) {
		out = append(out, negated(a))
	}
	return append(out, api.Dyad{}, api.Dyad{Limbs: []uint32{}})
}

// unfitDyads is dyads that may not be.
func unfitDyads() []api.Dyad {
	return []api.Dyad{
		{Neg: true}, parts(1), parts(-1), whole(0), whole(1, 0), parts(1, 2), parts(3, 0, 1), parts(1025, 1), parts(-1, 1), parts(math.MinInt, 1), parts(math.MaxInt, 1),
		whole(slices.Repeat([]uint32{1}, 41)...), {Neg: true, Limbs: []uint32{0}}, {Neg: true, Limbs: []uint32{4}, Exp: 1},
	}
}

// list is the parts of m, in order.
func list(m api.Mass) [4]api.Dyad { return [4]api.Dyad{m.S, m.W, m.C, m.A} }

func ofList(l [4]api.Dyad) api.Mass { return api.Mass{S: l[0], W: l[1], C: l[2], A: l[3]} }

// alone is a mass of which the part of that place is a, and all others 0.
func alone(place int, a api.Dyad) api.Mass {
	var l [4]api.Dyad
	l[place] = a
	return ofList(l)
}

// pair is a mass of two small parts, as a push has.
func pair(s, w uint32) api.Mass { return api.Mass{S: whole(s), W: whole(w)} }

// fitMasses is masses that may be: each dyad in a part alone, and with others.
func fitMasses() []api.Mass {
	out := []api.Mass{{}}
	l := fitDyads()
	for i, a := range l {
		out = append(out, alone(i%4, a), ofList([4]api.Dyad{a, l[(i+5)%len(l)], l[(3*i+1)%len(l)], l[(7*i+2)%len(l)]}))
	}
	return out
}

// unfitMasses is masses of which one part alone may not be, for each of the parts.
func unfitMasses() []api.Mass {
	var out []api.Mass
	for _, a := range unfitDyads() {
		for place := range 4 {
			l := [4]api.Dyad{whole(1), whole(2), whole(3), parts(1, 5)}
			l[place] = a
			out = append(out, alone(place, a), ofList(l))
		}
	}
	return out
}

// great is a, told in parts of 2^-scale.
func great(a api.Dyad) *big.Int {
	out := new(big.Int)
	for _, x := range slices.Backward(a.Limbs) {
		out.Lsh(out, 32).Or(out, big.NewInt(int64(x)))
	}
	out.Lsh(out, uint(scale-a.Exp))
	if a.Neg {
		out.Neg(out)
	}
	return out
}

// formed is what n, told in parts of 2^-scale, is as a dyad in its one form, and whether there is one.
func formed(n *big.Int) (api.Dyad, bool) {
	if n.Sign() == 0 {
		return api.Dyad{}, true
	}
	exp := max(scale-int(n.TrailingZeroBits()), 0)
	digits := new(big.Int).Rsh(new(big.Int).Abs(n), uint(scale-exp))
	if exp > 1024 || digits.BitLen() > 32*40 {
		return api.Dyad{}, false
	}
	out := api.Dyad{Neg: n.Sign() < 0, Exp: exp}
	for digits.Sign() > 0 {
		out.Limbs = append(out.Limbs, uint32(digits.Uint64()))
		digits.Rsh(digits, 32)
	}
	return out, true
}

// added is the sum of a and b, or ErrOver. It does not lean on mass.
func added(a, b api.Mass) (api.Mass, api.Errno) {
	var out [4]api.Dyad
	for i, x := range list(a) {
		sum, fits := formed(new(big.Int).Add(great(x), great(list(b)[i])))
		if !fits {
			return api.Mass{}, api.ErrOver
		}
		out[i] = sum
	}
	return ofList(out), api.OK
}

// Loads

func of(number, epoch, copies int, give api.Mass) api.Load {
	return api.Load{Number: number, Epoch: epoch, Copies: copies, Give: give}
}

// row is count loads that may be, with gaps between some of their Numbers.
func row(count int) []api.Load {
	var out []api.Load
	masses := fitMasses()
	for i := range count {
		out = append(out, of(3*i-i%2, i*i%4, i*7%maxFly+1, masses[i*5%len(masses)]))
	}
	return out
}

// drawn is count loads that may be.
func drawn(draw func(below int) int, count int) []api.Load {
	var numbers []int
	for len(numbers) < count {
		number := draw(maxNumber + 1)
		if draw(3) > 0 {
			number = draw(2*count + 1)
		}
		if !slices.Contains(numbers, number) {
			numbers = append(numbers, number)
		}
	}
	slices.Sort(numbers)
	masses := fitMasses()
	var out []api.Load
	for _, number := range numbers {
		load := of(number, draw(4), draw(maxFly)+1, masses[draw(len(masses))])
		if draw(4) == 0 {
			load.Epoch, load.Copies = draw(maxEpoch+1), maxFly
		}
		out = append(out, load)
	}
	return out
}

// fine is single loads that may be: the edges of each part.
func fine() []api.Load {
	out := []api.Load{of(0, 0, 1, api.Mass{}), of(maxNumber, maxEpoch, maxFly, pair(1, 2)), of(5, 3, 2, pair(6, 1)), of(maxNumber-1, 0, 1, pair(0, 0)), of(0, maxEpoch-1, maxFly-1, pair(3, 4)), of(0, maxEpoch, 1, api.Mass{}), of(1, 0, maxFly, api.Mass{})}
	out[3].Give = api.Mass{C: parts(1, 1), A: negated(whole(4))}
	for i, m := range fitMasses() {
		out = append(out, of(i, i%3, i%maxFly+1, m))
	}
	return out
}

// beyond is numbers that are not from low to high, also such as would be in fewer digits.
func beyond(low, high int) []int {
	return []int{low - 1, low - 2, math.MinInt, high + 1, high + 2, 1 << 32, 1<<32 + low, 1<<32 + high, math.MaxInt}
}

// faulty is single loads that may not be, each by one thing alone.
func faulty() []api.Load {
	out := []api.Load{{}}
	for _, n := range beyond(0, maxNumber) {
		out = append(out, of(n, 2, 1, pair(1, 2)))
	}
	for _, n := range beyond(0, maxEpoch) {
		out = append(out, of(2, n, 1, pair(1, 2)))
	}
	for _, n := range append(beyond(1, maxFly), 0) {
		out = append(out, of(2, 2, n, pair(1, 2)))
	}
	for _, m := range unfitMasses() {
		out = append(out, of(2, 2, 2, m))
	}
	return out
}

// fit is loads that may be: none, few, as many as there may be.
func fit() [][]api.Load {
	out := [][]api.Load{nil, {}, {of(0, 0, 1, pair(1, 1)), of(maxNumber, maxEpoch, maxFly, pair(2, 2))}, {of(3, 1, 2, pair(1, 2)), of(4, 1, 1, pair(1, 2)), of(5, 2, 16, pair(1, 2))}}
	for _, load := range fine() {
		out = append(out, []api.Load{load})
	}
	draw := stream(19)
	for count := range maxFly + 1 {
		out = append(out, row(count), drawn(draw, count), drawn(draw, count))
	}
	var high []api.Load
	for i := range maxFly {
		high = append(high, of(maxNumber-maxFly+1+i, maxEpoch, 1, pair(1, 1)))
	}
	return append(out, high)
}

// unfit is loads that may not be, as many as there may be at most: one of them may not, or two Numbers that stand beside each other do not rise.
func unfit() [][]api.Load {
	var out [][]api.Load
	for _, load := range faulty() {
		out = append(out, []api.Load{load}, []api.Load{of(1, 1, 1, pair(1, 1)), load}, []api.Load{load, of(3, 1, 1, pair(1, 1))}, []api.Load{of(1, 1, 1, pair(1, 1)), load, of(3, 1, 1, pair(1, 1))})
	}
	for _, count := range []int{2, 3, 7, maxFly} {
		for at := range count {
			for _, change := range []func(load *api.Load){
				func(load *api.Load) { load.Copies = 0 }, func(load *api.Load) { load.Epoch = -1 }, func(load *api.Load) { load.Give.W = parts(1, 2) },
			} {
				l := row(count)
				change(&l[at])
				out = append(out, l)
			}
		}
		for at := 1; at < count; at++ {
			l := row(count)
			l[at].Number = l[at-1].Number
			swapped := row(count)
			swapped[at-1], swapped[at] = swapped[at], swapped[at-1]
			out = append(out, l, swapped)
		}
		backwards := row(count)
		slices.Reverse(backwards)
		twice := row(count)
		twice[count-1].Number = twice[0].Number
		out = append(out, backwards, twice)
	}
	return out
}

// many is more loads than there may be: such as may be else, and such as may not.
func many() [][]api.Load {
	bad, falling := row(maxFly+1), row(maxFly+1)
	bad[0].Copies = 0
	slices.Reverse(falling)
	return [][]api.Load{row(maxFly + 1), row(maxFly + 2), row(40), row(1000), bad, falling, make([]api.Load, maxFly+1), make([]api.Load, 70000)}
}

func equalMass(a, b api.Mass) bool {
	for i, x := range list(a) {
		y := list(b)[i]
		if x.Neg != y.Neg || x.Exp != y.Exp || !slices.Equal(x.Limbs, y.Limbs) {
			return false
		}
	}
	return true
}

// equal tells whether a and b are the same; it does not lean on flight, nor on mass.
func equal(a, b []api.Load) bool {
	return slices.EqualFunc(a, b, equalLoad)
}

func equalLoad(a, b api.Load) bool {
	return a.Number == b.Number && a.Epoch == b.Epoch && a.Copies == b.Copies && equalMass(a.Give, b.Give)
}

// cloned is l in memory of its own; it does not lean on flight.Twin.
func cloned(l []api.Load) []api.Load {
	var out []api.Load
	for _, load := range l {
		out = append(out, of(load.Number, load.Epoch, load.Copies, clonedMass(load.Give)))
	}
	return out
}

func clonedMass(m api.Mass) api.Mass {
	l := list(m)
	for i := range l {
		l[i].Limbs = slices.Clone(l[i].Limbs)
	}
	return ofList(l)
}

// What the calls should answer, of loads that may be

// answer is what a call should answer.
type answer struct {
	l    []api.Load
	load api.Load
	m    api.Mass
	e    api.Errno
}

// byNumber is the loads by their Numbers, and listed puts them together again.
func byNumber(l []api.Load) map[int]api.Load {
	out := map[int]api.Load{}
	for _, load := range l {
		out[load.Number] = load
	}
	return out
}

func listed(loads map[int]api.Load) []api.Load {
	var out []api.Load
	for _, load := range loads {
		out = append(out, load)
	}
	slices.SortFunc(out, func(a, b api.Load) int { return a.Number - b.Number })
	return out
}

func isNumber(n int) bool { return 0 <= n && n <= 1048575 }
func isEpoch(n int) bool  { return 0 <= n && n <= 65535 }

func mayBe(m api.Mass) bool {
	for _, a := range list(m) {
		n := len(a.Limbs)
		if n == 0 && (a.Neg || a.Exp != 0) {
			return false
		}
		if n > 40 || n > 0 && a.Limbs[n-1] == 0 || a.Exp < 0 || a.Exp > 1024 || a.Exp > 0 && a.Limbs[0]%2 == 0 {
			return false
		}
	}
	return true
}

func launchOf(l []api.Load, number, epoch int, give api.Mass) answer {
	loads := byNumber(l)
	_, there := loads[number]
	switch {
	case !isNumber(number) || !isEpoch(epoch):
		return answer{e: 2}
	case !mayBe(give):
		return answer{e: 8}
	case there:
		return answer{e: 12}
	case len(l) == 16:
		return answer{e: 9}
	}
	loads[number] = api.Load{Number: number, Epoch: epoch, Copies: 1, Give: give}
	return answer{l: listed(loads)}
}

func doubleOf(l []api.Load, number int) answer {
	loads := byNumber(l)
	load, there := loads[number]
	switch {
	case !isNumber(number):
		return answer{e: 2}
	case !there:
		return answer{l: l}
	case load.Copies == 16:
		return answer{e: 9}
	}
	load.Copies++
	loads[number] = load
	return answer{l: listed(loads)}
}

func landOf(l []api.Load, number int) answer {
	if !isNumber(number) {
		return answer{e: 2}
	}
	loads := byNumber(l)
	load := loads[number]
	delete(loads, number)
	return answer{l: listed(loads), load: load}
}

func loseOf(l []api.Load, number int) answer {
	loads := byNumber(l)
	load, there := loads[number]
	switch {
	case !isNumber(number):
		return answer{e: 2}
	case !there:
		return answer{l: l}
	case load.Copies == 1:
		return landOf(l, number)
	}
	load.Copies--
	loads[number] = load
	return answer{l: listed(loads)}
}

func sumOf(l []api.Load, epoch int) answer {
	if !isEpoch(epoch) {
		return answer{e: 2}
	}
	var out api.Mass
	for _, load := range l {
		if load.Epoch != epoch {
			continue
		}
		var e api.Errno
		if out, e = added(out, load.Give); e != api.OK {
			return answer{e: 10}
		}
	}
	return answer{m: out}
}

// The calls, and what they should answer: they fail, unless it is that, with nothing beside an error.

func launch(t *testing.T, l []api.Load, number, epoch int, give api.Mass, want answer) []api.Load {
	t.Helper()
	got, e := flight.Launch(l, number, epoch, give)
	if e != want.e || !equal(got, want.l) {
		t.Errorf("Launch of %d, epoch %d, %s, to %s: %s, error %d; asked for %s, error %d", number, epoch, briefMass(give), briefs(l), briefs(got), int(e), briefs(want.l), int(want.e))
	}
	return got
}

func double(t *testing.T, l []api.Load, number int, want answer) []api.Load {
	t.Helper()
	got, e := flight.Double(l, number)
	if e != want.e || !equal(got, want.l) {
		t.Errorf("Double of %d in %s: %s, error %d; asked for %s, error %d", number, briefs(l), briefs(got), int(e), briefs(want.l), int(want.e))
	}
	return got
}

func land(t *testing.T, l []api.Load, number int, want answer) ([]api.Load, api.Load) {
	t.Helper()
	got, load, e := flight.Land(l, number)
	if e != want.e || !equal(got, want.l) || !equalLoad(load, want.load) {
		t.Errorf("Land of %d in %s: %s, and %s, error %d; asked for %s, and %s, error %d", number, briefs(l), briefs(got), brief(load), int(e), briefs(want.l), brief(want.load), int(want.e))
	}
	return got, load
}

func lose(t *testing.T, l []api.Load, number int, want answer) ([]api.Load, api.Load) {
	t.Helper()
	got, load, e := flight.Lose(l, number)
	if e != want.e || !equal(got, want.l) || !equalLoad(load, want.load) {
		t.Errorf("Lose of %d in %s: %s, and %s, error %d; asked for %s, and %s, error %d", number, briefs(l), briefs(got), brief(load), int(e), briefs(want.l), brief(want.load), int(want.e))
	}
	return got, load
}

func sum(t *testing.T, l []api.Load, epoch int, want answer) api.Mass {
	t.Helper()
	got, e := flight.Sum(l, epoch)
	if e != want.e || !equalMass(got, want.m) {
		t.Errorf("Sum of %d in %s: %s, error %d; asked for %s, error %d", epoch, briefs(l), briefMass(got), int(e), briefMass(want.m), int(want.e))
	}
	return got
}

// refused fails unless all calls on l are refused by want, whatever else they are given.
func refused(t *testing.T, l []api.Load, want api.Errno) {
	t.Helper()
	for _, number := range []int{-1, 0, 1, 2, 3, 5, maxNumber, maxNumber + 1} {
		for _, epoch := range []int{0, -1, maxEpoch + 1} {
			launch(t, l, number, epoch, pair(1, 2), answer{e: want})
			launch(t, l, number, epoch, alone(1, parts(1, 2)), answer{e: want})
		}
		double(t, l, number, answer{e: want})
		land(t, l, number, answer{e: want})
		lose(t, l, number, answer{e: want})
	}
	for _, epoch := range []int{-1, 0, 1, 2, maxEpoch, maxEpoch + 1} {
		sum(t, l, epoch, answer{e: want})
	}
}

func briefDyad(a api.Dyad) string {
	sign := ""
	if a.Neg {
		sign = "-"
	}
	if len(a.Limbs) > 3 {
		return fmt.Sprintf("%s(%d limbs)/2^%d", sign, len(a.Limbs), a.Exp)
	}
	return fmt.Sprintf("%s%v/2^%d", sign, a.Limbs, a.Exp)
}

func briefMass(m api.Mass) string {
	return fmt.Sprintf("{%s %s %s %s}", briefDyad(m.S), briefDyad(m.W), briefDyad(m.C), briefDyad(m.A))
}

func brief(load api.Load) string {
	return fmt.Sprintf("{%d %d %d %s}", load.Number, load.Epoch, load.Copies, briefMass(load.Give))
}

func briefs(l []api.Load) string {
	if len(l) > 40 {
		return fmt.Sprint(len(l), " loads")
	}
	out := "["
	for _, load := range l {
		out += brief(load)
	}
	return out + "]"
}

// Memory

// behind is l in memory of its own, with loads behind its end, and limbs behind the end of each dyad's.
func behind(l []api.Load) []api.Load {
	out := append(cloned(l), of(77, 6, 7, pair(7, 8)), of(78, 5, 7, pair(7, 8)))[:len(l)]
	for i := range out {
		out[i].Give = behindMass(out[i].Give)
	}
	return out
}

func behindMass(m api.Mass) api.Mass {
	l := list(m)
	for i, a := range l {
		l[i].Limbs = append(slices.Clone(a.Limbs), 200, 201, 202)[:len(a.Limbs)]
	}
	return ofList(l)
}

// memory is what stands in all the memory that l has, also behind its end and those of its dyads.
func memory(l []api.Load) []api.Load {
	out := slices.Clone(l[:cap(l)])
	for i := range out {
		out[i].Give = memoryMass(out[i].Give)
	}
	return out
}

func memoryMass(m api.Mass) api.Mass {
	l := list(m)
	for i, a := range l {
		l[i].Limbs = slices.Clone(a.Limbs[:cap(a.Limbs)])
	}
	return ofList(l)
}

// scribble writes over all the memory that l has.
func scribble(l []api.Load) {
	l = l[:cap(l)]
	for i, load := range l {
		scrawl(load.Give)
		l[i] = api.Load{Number: ^load.Number, Epoch: ^load.Epoch, Copies: ^load.Copies}
	}
}

func scrawl(m api.Mass) {
	for _, a := range list(m) {
		scrawlDyad(a)
	}
}

func scrawlDyad(a api.Dyad) {
	limbs := a.Limbs[:cap(a.Limbs)]
	for i := range limbs {
		limbs[i] = ^limbs[i]
	}
}

// apart fails unless the limbs of each dyad of the masses are in memory of their own, also behind their end.
func apart(t *testing.T, masses ...api.Mass) {
	t.Helper()
	var dyads []api.Dyad
	for _, m := range masses {
		l := list(m)
		dyads = append(dyads, l[:]...)
	}
	for i, a := range dyads {
		before := others(dyads, i)
		scrawlDyad(a)
		after := others(dyads, i)
		scrawlDyad(a)
		if !slices.Equal(before, after) {
			t.Fatalf("the part %d of %d shares memory with another one", i, len(dyads))
		}
	}
}

// others is all limbs in the memory of dyads, but for those of one place.
func others(dyads []api.Dyad, but int) []uint32 {
	var out []uint32
	for i, a := range dyads {
		if i != but {
			out = append(out, a.Limbs[:cap(a.Limbs)]...)
		}
	}
	return out
}

func gives(l []api.Load) []api.Mass {
	var out []api.Mass
	for _, load := range l {
		out = append(out, load.Give)
	}
	return out
}
