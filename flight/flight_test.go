package flight_test

import (
	"math"
	"slices"
	"testing"

	"headcount/api"
	"headcount/flight"
)

func TestExamples(t *testing.T) {
	give := pair(6, 1)
	load := func(copies int) api.Load { return of(5, 3, copies, give) }
	l := launch(t, nil, 5, 3, give, answer{l: []api.Load{load(1)}})
	l = double(t, l, 5, answer{l: []api.Load{load(2)}})
	l, _ = lose(t, l, 5, answer{l: []api.Load{load(1)}})
	l, _ = land(t, l, 5, answer{load: load(1)})
	land(t, l, 5, answer{})
	lose(t, l, 5, answer{})
}

// P13.1

// mails is a mail of each kind, with all that it uses; carried is what each carries.
func mails() (l []api.Mail, carried []api.Mass) {
	half, big := negated(parts(1, 7)), parts(1024, greatest().Limbs...)
	for _, by := range []struct {
		m       api.Mail
		carried api.Mass
	}{
		{api.Mail{Kind: 1, From: 1, To: 2, Epoch: 3, Number: 4, Give: api.Mass{S: half, W: big}}, api.Mass{S: half, W: big}},
		{api.Mail{Kind: 1, Give: pair(6, 1)}, pair(6, 1)},
		{api.Mail{Kind: 1, From: 7}, api.Mass{}},
		{api.Mail{Kind: 2, From: 2, To: 1, Epoch: 300, Number: 70000, Give: api.Mass{C: half, A: big}}, api.Mass{}},
		{api.Mail{Kind: 2}, api.Mass{}},
		{api.Mail{Kind: 3, From: 7, Epoch: 300, Number: 70000, About: 69999, Give: api.Mass{C: half, A: big}}, api.Mass{C: half, A: big}},
		{api.Mail{Kind: 3, Give: api.Mass{A: whole(0, 1)}}, api.Mass{A: whole(0, 1)}},
		{api.Mail{Kind: 3, About: 5}, api.Mass{}},
		{api.Mail{Kind: 4, To: 7, Epoch: 1, Number: maxNumber, About: 3}, api.Mass{}},
		{api.Mail{Kind: 5, From: 4, Number: 9, Wants: true, List: []api.Desc{{Id: 3, Stamp: 6}}}, api.Mass{}},
		{api.Mail{Kind: 6, From: 6, To: 5, Epoch: maxEpoch, Edge: api.Edge{Has: true, Min: -5, Max: 5}, Least: []uint32{1, 9}}, api.Mass{}},
	} {
		l, carried = append(l, by.m), append(carried, by.carried)
	}
	return l, carried
}

func TestOf(t *testing.T) {
	l, carried := mails()
	for i, m := range l {
		got, e := flight.Of(m)
		if e != api.OK || !equalMass(got, carried[i]) {
			t.Errorf("Of the mail %d: %s, error %d; asked for %s", i, briefMass(got), int(e), briefMass(carried[i]))
		}
	}
}

// TestOfEachGive has pushes, asks and replies of many dyads.
func TestOfEachGive(t *testing.T) {
	for _, a := range fitDyads() {
		for _, b := range fitDyads() {
			sums, means := api.Mass{S: a, W: b}, api.Mass{C: a, A: b}
			for _, by := range []struct {
				kind       uint8
				give, want api.Mass
			}{{1, sums, sums}, {2, means, api.Mass{}}, {3, means, means}} {
				got, e := flight.Of(api.Mail{Kind: by.kind, Give: by.give})
				if e != api.OK || !equalMass(got, by.want) {
					t.Errorf("Of kind %d, %s: %s, error %d", by.kind, briefMass(by.give), briefMass(got), int(e))
				}
			}
		}
	}
}

func TestOfRefused(t *testing.T) {
	l := []api.Mail{{}, {Kind: 7}, {Kind: 255}, {Kind: 1, Give: pair(1, 1), About: 1}, {Kind: 1, Give: api.Mass{C: whole(1)}}, {Kind: 1, Give: api.Mass{A: whole(1)}}, {Kind: 2, Give: pair(1, 1)}, {Kind: 3, Give: pair(1, 1)}, {Kind: 4, Give: pair(1, 1)}, {Kind: 4, Give: api.Mass{C: whole(1)}}}
	for _, a := range unfitDyads() {
		l = append(l, api.Mail{Kind: 1, Give: api.Mass{S: a, W: whole(1)}}, api.Mail{Kind: 1, Give: api.Mass{S: whole(1), W: a}}, api.Mail{Kind: 2, Give: api.Mass{C: a}}, api.Mail{Kind: 3, Give: api.Mass{C: a}}, api.Mail{Kind: 3, Give: api.Mass{A: a}})
	}
	few, _ := mails()
	for _, m := range few {
		for _, change := range []func(m *api.Mail){
			func(m *api.Mail) { m.Kind = 0 }, func(m *api.Mail) { m.From = -1 }, func(m *api.Mail) { m.To = 8 }, func(m *api.Mail) { m.Epoch = maxEpoch + 1 }, func(m *api.Mail) { m.Number = maxNumber + 1 }, func(m *api.Mail) { m.About = -1 },
			func(m *api.Mail) { m.Give.S = parts(1) }, func(m *api.Mail) { m.List = make([]api.Desc, 65) }, func(m *api.Mail) { m.Edge.Min = 6 }, func(m *api.Mail) { m.Least = []uint32{2, 2} },
		} {
			other := m
			change(&other)
			l = append(l, other)
		}
	}
	for _, m := range l {
		if got, e := flight.Of(m); e != api.ErrMail || !equalMass(got, api.Mass{}) {
			t.Errorf("Of %+v: %s, error %d", m, briefMass(got), int(e))
		}
	}
}

func TestCheck(t *testing.T) {
	for _, l := range fit() {
		if e := flight.Check(l); e != api.OK {
			t.Errorf("Check of %s: error %d", briefs(l), int(e))
		}
	}
	for _, l := range unfit() {
		if e := flight.Check(l); e != api.ErrBad {
			t.Errorf("Check of %s: error %d", briefs(l), int(e))
		}
	}
	for _, l := range many() {
		if e := flight.Check(l); e != api.ErrMany {
			t.Errorf("Check of %s: error %d", briefs(l), int(e))
		}
	}
}

// TestCheckOfEach has each edge of a load's Number, Epoch and Copies with each of the others.
func TestCheckOfEach(t *testing.T) {
	for _, number := range []int{math.MinInt, -1, 0, 1, maxNumber - 1, maxNumber, maxNumber + 1, 1 << 32, math.MaxInt} {
		for _, epoch := range []int{math.MinInt, -1, 0, 1, 65534, 65535, 65536, 1 << 32, math.MaxInt} {
			for _, copies := range []int{math.MinInt, -1, 0, 1, 2, 15, 16, 17, 1<<32 + 1, math.MaxInt} {
				want := api.OK
				if number < 0 || number > 1048575 || epoch < 0 || epoch > 65535 || copies < 1 || copies > 16 {
					want = api.ErrBad
				}
				l := []api.Load{of(number, epoch, copies, pair(1, 2))}
				if e := flight.Check(l); e != want {
					t.Errorf("Check of %s: error %d; asked for %d", briefs(l), int(e), int(want))
				}
			}
		}
	}
}

// TestCheckOfNumbers has all rows of at most four Numbers below five: they may be just if they rise.
func TestCheckOfNumbers(t *testing.T) {
	var all func(l []api.Load, rise bool)
	all = func(l []api.Load, rise bool) {
		want := api.OK
		if !rise {
			want = api.ErrBad
		}
		if e := flight.Check(l); e != want {
			t.Errorf("Check of %s: error %d; asked for %d", briefs(l), int(e), int(want))
		}
		if len(l) == 4 {
			return
		}
		for number := range 5 {
			above := len(l) == 0 || number > l[len(l)-1].Number
			all(append(slices.Clone(l), of(number, 1, 1, pair(1, 1))), rise && above)
		}
	}
	all(nil, true)
}

// anyOnes is loads that may be, and such as may not, few and many.
func anyOnes() [][]api.Load {
	return slices.Concat(fit(), unfit()[:60], unfit()[len(unfit())-20:], many()[:7])
}

func TestSame(t *testing.T) {
	all := anyOnes()
	for i, a := range all {
		if !flight.Same(a, a) || !flight.Same(a, cloned(a)) {
			t.Errorf("Same: %s is not the same as itself", briefs(a))
		}
		for j, b := range all {
			if want := equal(a, b); flight.Same(a, b) != want {
				t.Errorf("Same of %d and %d: not %v", i, j, want)
			}
		}
	}
}

func TestSameByHand(t *testing.T) {
	a, b := of(1, 2, 3, pair(4, 5)), of(6, 7, 8, api.Mass{C: parts(1, 1), A: whole(9)})
	l := []api.Load{a, b}
	others := [][]api.Load{{}, {a}, {b}, {b, a}, {a, b, b}, {a, b, {}}, {{}, a, b}, {a, a}}
	for at := range l {
		for _, change := range []func(load *api.Load){
			func(load *api.Load) { load.Number++ }, func(load *api.Load) { load.Epoch++ }, func(load *api.Load) { load.Copies++ }, func(load *api.Load) { load.Number += 1 << 32 }, func(load *api.Load) { load.Copies = -load.Copies },
			func(load *api.Load) { load.Give.S = whole(3) }, func(load *api.Load) { load.Give.W = parts(1, 5) }, func(load *api.Load) { load.Give.C = whole(1) }, func(load *api.Load) { load.Give.A = negated(whole(9)) }, func(load *api.Load) { load.Give.A.Limbs = []uint32{9, 0} }, func(load *api.Load) { load.Give.S.Neg = true }, func(load *api.Load) { load.Give.W.Exp = 4 },
		} {
			other := cloned(l)
			change(&other[at])
			others = append(others, other)
		}
	}
	for _, other := range others {
		if flight.Same(l, other) || flight.Same(other, l) {
			t.Errorf("Same of %s and %s", briefs(l), briefs(other))
		}
	}
	if !flight.Same(nil, []api.Load{}) || !flight.Same([]api.Load{}, nil) {
		t.Error("Same: no loads, and none")
	}
	if empty := of(0, 0, 0, api.Mass{W: whole([]uint32{}...)}); !flight.Same([]api.Load{empty}, []api.Load{{}}) || !flight.Same([]api.Load{{}}, []api.Load{empty}) {
		t.Error("Same: no limbs, and none")
	}
}

func TestTwin(t *testing.T) {
	for _, l := range append(anyOnes(), make([]api.Load, 70000)) {
		got := flight.Twin(l)
		if !equal(got, l) || !flight.Same(got, l) {
			t.Errorf("Twin of %s: %s", briefs(l), briefs(got))
		}
	}
}

// P13.2

// near is the Numbers of l, those beside them, and edges; all from 0 to MaxNumber.
func near(l []api.Load) []int {
	out := []int{0, 1, 2, 3, 4, 5, 9, maxNumber / 2, maxNumber - 1, maxNumber}
	for _, load := range l {
		out = append(out, load.Number-1, load.Number, load.Number+1)
	}
	slices.Sort(out)
	return slices.DeleteFunc(slices.Compact(out), func(n int) bool { return n < 0 || n > maxNumber })
}

// anyNumbers is those that are near, and what is no Number.
func anyNumbers(l []api.Load) []int { return append(near(l), beyond(0, maxNumber)...) }

func TestLaunch(t *testing.T) {
	masses := slices.Concat(fitMasses(), unfitMasses())
	turn := 0
	for _, l := range fit() {
		for _, number := range anyNumbers(l) {
			for _, epoch := range append(beyond(0, maxEpoch), 0, 1, 300, maxEpoch-1, maxEpoch) {
				turn++
				for _, give := range []api.Mass{pair(6, 1), masses[turn%len(masses)]} {
					launch(t, l, number, epoch, give, launchOf(l, number, epoch, give))
				}
			}
		}
	}
}

func TestLaunchOfEachGive(t *testing.T) {
	for _, give := range slices.Concat(fitMasses(), unfitMasses()) {
		for _, l := range [][]api.Load{nil, row(3), row(15), row(16)} {
			for _, number := range []int{0, 1, 40, maxNumber} {
				launch(t, l, number, 7, give, launchOf(l, number, 7, give))
			}
		}
	}
}

func TestLaunchByHand(t *testing.T) {
	give, bad := api.Mass{S: whole(3), W: parts(1, 1), C: negated(whole(1)), A: whole(0, 2)}, api.Mass{S: whole(3, 0)}
	a, b, c := of(0, 9, 16, pair(1, 1)), of(4, 8, 3, pair(2, 2)), of(maxNumber, 7, 2, pair(3, 3))
	one := func(number int) api.Load { return of(number, 5, 1, give) }
	for _, by := range []struct {
		l             []api.Load
		number, epoch int
		give          api.Mass
		want          answer
	}{
		{nil, 7, 5, give, answer{l: []api.Load{one(7)}}},
		{nil, 0, 5, give, answer{l: []api.Load{one(0)}}},
		{nil, maxNumber, 5, give, answer{l: []api.Load{one(maxNumber)}}},
		{nil, 0, maxEpoch, api.Mass{}, answer{l: []api.Load{of(0, maxEpoch, 1, api.Mass{})}}},
		{[]api.Load{b, c}, 3, 5, give, answer{l: []api.Load{one(3), b, c}}},
		{[]api.Load{a, b, c}, 3, 5, give, answer{l: []api.Load{a, one(3), b, c}}},
		{[]api.Load{a, b, c}, 5, 5, give, answer{l: []api.Load{a, b, one(5), c}}},
		{[]api.Load{a, b}, 5, 5, give, answer{l: []api.Load{a, b, one(5)}}},
		{[]api.Load{a, b, c}, 4, 5, give, answer{e: api.ErrAgain}},
		{[]api.Load{a, b, c}, 0, 5, give, answer{e: api.ErrAgain}},
		{[]api.Load{a, b, c}, maxNumber, 5, give, answer{e: api.ErrAgain}},
		{[]api.Load{a, b, c}, 4, 5, bad, answer{e: api.ErrBad}},
		{[]api.Load{a, b, c}, 5, 5, bad, answer{e: api.ErrBad}},
		{[]api.Load{a, b, c}, 4, -1, bad, answer{e: api.ErrArg}},
		{[]api.Load{a, b, c}, 4, maxEpoch + 1, give, answer{e: api.ErrArg}},
		{[]api.Load{a, b, c}, -1, 5, bad, answer{e: api.ErrArg}},
		{[]api.Load{a, b, c}, maxNumber + 1, 5, give, answer{e: api.ErrArg}},
		{row(16), 100, 5, give, answer{e: api.ErrFull}},
		{row(16), row(16)[3].Number, 5, give, answer{e: api.ErrAgain}},
		{row(16), 100, 5, bad, answer{e: api.ErrBad}},
		{row(16), 100, -1, give, answer{e: api.ErrArg}},
		{row(16), -1, 5, give, answer{e: api.ErrArg}},
		{row(15), 100, 5, give, answer{l: append(row(15), one(100))}},
		{row(17), -1, -1, bad, answer{e: api.ErrMany}},
		{[]api.Load{b, a}, -1, -1, bad, answer{e: api.ErrBad}},
	} {
		launch(t, by.l, by.number, by.epoch, by.give, by.want)
	}
}

func TestDouble(t *testing.T) {
	for _, l := range fit() {
		for _, number := range anyNumbers(l) {
			double(t, l, number, doubleOf(l, number))
		}
	}
}

func TestDoubleByHand(t *testing.T) {
	a, b, c := of(0, 9, 16, pair(1, 1)), of(4, 8, 3, pair(2, 2)), of(maxNumber, 7, 15, pair(3, 3))
	l := []api.Load{a, b, c}
	double(t, l, 0, answer{e: api.ErrFull})
	double(t, l, 4, answer{l: []api.Load{a, of(4, 8, 4, pair(2, 2)), c}})
	double(t, l, maxNumber, answer{l: []api.Load{a, b, of(maxNumber, 7, 16, pair(3, 3))}})
	double(t, l, 3, answer{l: l})
	double(t, l, 5, answer{l: l})
	double(t, nil, 0, answer{})
	double(t, l, -1, answer{e: api.ErrArg})
	double(t, l, maxNumber+1, answer{e: api.ErrArg})
	double(t, nil, -1, answer{e: api.ErrArg})
	double(t, row(16), row(16)[0].Number, answer{l: append([]api.Load{of(0, 0, 2, row(16)[0].Give)}, row(16)[1:]...)})
	double(t, row(16), 100, answer{l: row(16)})
}

// TestRefused has loads that may not be: Check's error stands ahead of all others.
func TestRefused(t *testing.T) {
	for _, l := range unfit() {
		refused(t, l, api.ErrBad)
	}
	for _, l := range many() {
		refused(t, l, api.ErrMany)
	}
}

// P13.3

func TestLandAndLose(t *testing.T) {
	for _, l := range fit() {
		for _, number := range anyNumbers(l) {
			land(t, l, number, landOf(l, number))
			lose(t, l, number, loseOf(l, number))
		}
	}
}

func TestLandByHand(t *testing.T) {
	a, b, c := of(0, 9, 16, pair(1, 1)), of(4, 8, 3, pair(2, 2)), of(maxNumber, 7, 1, pair(3, 3))
	l := []api.Load{a, b, c}
	land(t, l, 0, answer{l: []api.Load{b, c}, load: a})
	land(t, l, 4, answer{l: []api.Load{a, c}, load: b})
	land(t, l, maxNumber, answer{l: []api.Load{a, b}, load: c})
	land(t, []api.Load{b}, 4, answer{load: b})
	land(t, l, 3, answer{l: l})
	land(t, nil, 0, answer{})
	land(t, l, -1, answer{e: api.ErrArg})
	land(t, l, maxNumber+1, answer{e: api.ErrArg})
}

func TestLoseByHand(t *testing.T) {
	a, b, c := of(0, 9, 1, pair(1, 1)), of(4, 8, 2, pair(2, 2)), of(maxNumber, 7, 16, pair(3, 3))
	l := []api.Load{a, b, c}
	lose(t, l, 0, answer{l: []api.Load{b, c}, load: a})
	lose(t, l, 4, answer{l: []api.Load{a, of(4, 8, 1, pair(2, 2)), c}})
	lose(t, l, maxNumber, answer{l: []api.Load{a, b, of(maxNumber, 7, 15, pair(3, 3))}})
	lose(t, []api.Load{a}, 0, answer{load: a})
	lose(t, l, 3, answer{l: l})
	lose(t, nil, 0, answer{})
	lose(t, l, -1, answer{e: api.ErrArg})
	lose(t, l, maxNumber+1, answer{e: api.ErrArg})
}

// P13.4

func TestSum(t *testing.T) {
	for _, l := range fit() {
		epochs := append(beyond(0, maxEpoch), 0, 1, 2, 3, maxEpoch-1, maxEpoch)
		for _, load := range l {
			epochs = append(epochs, load.Epoch)
		}
		for _, epoch := range epochs {
			sum(t, l, epoch, sumOf(l, epoch))
		}
	}
}

func TestSumByHand(t *testing.T) {
	l := []api.Load{of(2, 1, 3, pair(2, 1)), of(3, 0, 1, pair(100, 1)), of(5, 1, 16, pair(5, 1)), of(9, 1, 1, api.Mass{S: negated(whole(9)), W: parts(1, 1), C: parts(2, 1), A: whole(7)}), of(maxNumber, maxEpoch, 2, pair(8, 9))}
	sum(t, l, 1, answer{m: api.Mass{S: negated(whole(2)), W: parts(1, 5), C: parts(2, 1), A: whole(7)}})
	sum(t, l, 0, answer{m: pair(100, 1)})
	sum(t, l, maxEpoch, answer{m: pair(8, 9)})
	sum(t, l, 2, answer{})
	sum(t, nil, 0, answer{})
	sum(t, l, -1, answer{e: api.ErrArg})
	sum(t, l, maxEpoch+1, answer{e: api.ErrArg})
	sum(t, nil, -1, answer{e: api.ErrArg})
}

// TestSumOver has sums that leave the room, in each part, at the end or on the way alone, in the order of places.
func TestSumOver(t *testing.T) {
	top, low := greatest(), negated(greatest())
	for _, by := range []struct {
		dyads []api.Dyad
		fits  bool
	}{
		{[]api.Dyad{top}, true}, {[]api.Dyad{top, whole(1)}, false}, {[]api.Dyad{whole(1), top}, false}, {[]api.Dyad{top, whole(1), low}, false}, {[]api.Dyad{top, low, whole(1)}, true}, {[]api.Dyad{low, top, whole(1)}, true},
		{[]api.Dyad{low, negated(whole(1))}, false}, {[]api.Dyad{top, least()}, false}, {[]api.Dyad{top, negated(least()), low}, false}, {[]api.Dyad{top, low, least()}, true}, {[]api.Dyad{low, top, top, low}, true}, {[]api.Dyad{low, top, top, top, low}, false},
	} {
		for place := range 4 {
			var l []api.Load
			for i, a := range by.dyads {
				// Loads of other epochs, which would be too great with these, stand between them.
				l = append(l, of(2*i, 4, 1, alone(place, a)), of(2*i+1, 5+i, 1, alone(place, top)))
			}
			want := sumOf(l, 4)
			if (want.e == api.OK) != by.fits || !by.fits && want.e != api.ErrOver {
				t.Fatalf("place %d of %s: what is asked for is wrong", place, briefs(l))
			}
			sum(t, l, 4, want)
		}
	}
}

// P13.5

// calls is all calls that answer loads; what came down stands behind those that are left.
func calls(l []api.Load, give api.Mass) []func() []api.Load {
	out := []func() []api.Load{
		func() []api.Load { return flight.Twin(l) },
		func() []api.Load { got, _ := flight.Launch(l, 1, 3, give); return got },
		func() []api.Load { got, _ := flight.Launch(l, 1000, 3, give); return got },
	}
	numbers := []int{-1, 1, 1000}
	for _, load := range l[:min(len(l), maxFly)] {
		numbers = append(numbers, load.Number)
	}
	for _, number := range numbers {
		out = append(out,
			func() []api.Load { got, _ := flight.Double(l, number); return got },
			func() []api.Load { got, load, _ := flight.Land(l, number); return append(got, load) },
			func() []api.Load { got, load, _ := flight.Lose(l, number); return append(got, load) })
	}
	return out
}

func TestOnlyRead(t *testing.T) {
	for _, l := range anyOnes() {
		in, give := behind(l), behindMass(pair(3, 4))
		before, beforeGive := memory(in), memoryMass(give)
		flight.Check(in)
		flight.Same(in, behind(l))
		for _, call := range calls(in, give) {
			call()
		}
		for epoch := range 5 {
			flight.Sum(in, epoch)
		}
		if !equal(memory(in), before) || !equalMass(memoryMass(give), beforeGive) {
			t.Fatalf("%s was turned", briefs(l))
		}
	}
}

// TestMemory writes over what was answered, also behind its end, and over what was handed in: nothing else may change by it.
func TestMemory(t *testing.T) {
	for _, l := range anyOnes() {
		if len(l) > 100 {
			continue
		}
		in, give := behind(l), behindMass(pair(3, 4))
		before, beforeGive := memory(in), memoryMass(give)
		for n, call := range calls(in, give) {
			first, second := call(), call()
			want := cloned(first)
			apart(t, gives(first)...)
			scribble(first)
			if !equal(memory(in), before) || !equalMass(memoryMass(give), beforeGive) || !equal(second, want) || !equal(call(), want) {
				t.Fatalf("call %d on %s: the answer shares memory", n, briefs(l))
			}
			other, otherGive := behind(l), behindMass(pair(3, 4))
			third := calls(other, otherGive)[n]()
			scribble(other)
			scrawl(otherGive)
			if !equal(third, want) {
				t.Fatalf("call %d on %s: the answer shares memory with what is handed in", n, briefs(l))
			}
		}
	}
}

// TestMemoryOfMasses has the same of what a mail carries, and of sums.
func TestMemoryOfMasses(t *testing.T) {
	held := func(in []api.Mass, do func(m api.Mass) api.Mass) {
		for _, m := range in {
			given := behindMass(m)
			before := memoryMass(given)
			first, second := do(given), do(given)
			want := clonedMass(first)
			apart(t, first)
			scrawl(first)
			if !equalMass(memoryMass(given), before) || !equalMass(second, want) {
				t.Fatalf("of %s: the answer shares memory", briefMass(m))
			}
			scrawl(given)
			if !equalMass(second, want) {
				t.Fatalf("of %s: the answer shares memory with what is handed in", briefMass(m))
			}
		}
	}
	var pushes, replies []api.Mass
	for _, m := range fitMasses() {
		pushes, replies = append(pushes, api.Mass{S: m.S, W: m.W}), append(replies, api.Mass{C: m.C, A: m.A})
	}
	held(pushes, func(m api.Mass) api.Mass { out, _ := flight.Of(api.Mail{Kind: 1, Give: m}); return out })
	held(replies, func(m api.Mass) api.Mass { out, _ := flight.Of(api.Mail{Kind: 3, Give: m}); return out })
	held(fitMasses(), func(m api.Mass) api.Mass {
		out, _ := flight.Sum([]api.Load{of(3, 0, 1, m), of(4, 1, 1, m)}, 0)
		return out
	})
	held(fitMasses(), func(m api.Mass) api.Mass {
		out, _ := flight.Sum([]api.Load{of(3, 0, 1, api.Mass{}), of(4, 0, 1, m), of(5, 0, 1, api.Mass{})}, 0)
		return out
	})
}

// TestSharedLimbs hands in loads, and a mass, whose dyads are all in the same memory: in the answers each has its own.
func TestSharedLimbs(t *testing.T) {
	limbs := []uint32{1, 2, 3, 5, 7}
	give := api.Mass{S: whole(limbs...), W: whole(limbs[:2]...), C: parts(3, limbs...), A: whole(limbs[1:4]...)}
	l := []api.Load{of(3, 1, 2, give), of(4, 1, 1, give), of(6, 2, 1, give)}
	for _, call := range calls(l, give) {
		apart(t, gives(call())...)
	}
	got, _ := flight.Of(api.Mail{Kind: 1, Give: api.Mass{S: give.S, W: give.W}})
	apart(t, got)
	got, _ = flight.Sum(l, 1)
	apart(t, got)
	got, _ = flight.Sum(l, 2)
	apart(t, got)
	if !slices.Equal(limbs, []uint32{1, 2, 3, 5, 7}) {
		t.Error("what was handed in was turned")
	}
}

// P13.6

// wire is copies under way, told one by one, and what should come down by them: it counts no Copies of loads.
type wire struct {
	copies   []int // the Number of each
	launched map[int]api.Load
	landed   map[int]bool
	came     map[int]bool
}

// leaves takes a copy out, and is whether what it carries should come down by that.
func (w *wire) leaves(at int, lands bool) (number int, comes bool) {
	number = w.copies[at]
	w.copies = slices.Delete(w.copies, at, at+1)
	comes = !w.landed[number] && (lands || !slices.Contains(w.copies, number))
	w.landed[number] = w.landed[number] || lands
	return number, comes
}

// TestJustOnce launches, doubles, lands and loses copies in any order: what was launched comes down just once, when it should.
func TestJustOnce(t *testing.T) {
	draw := stream(101)
	masses := fitMasses()
	for range 400 {
		w := wire{launched: map[int]api.Load{}, landed: map[int]bool{}, came: map[int]bool{}}
		var l []api.Load
		for next := 0; next < 12 || len(w.copies) > 0; {
			switch what := draw(4); {
			case next < 12 && (what == 0 || len(w.copies) == 0):
				load := of(next, draw(3), 1, masses[draw(len(masses))])
				number := next * 5 % 12 // their Numbers come in no order
				load.Number = number
				w.launched[number] = load
				w.copies = append(w.copies, number)
				l = launch(t, l, number, load.Epoch, load.Give, launchOf(l, number, load.Epoch, load.Give))
				next++
			case what == 1 && len(w.copies) < maxFly:
				number := w.copies[draw(len(w.copies))]
				w.copies = append(w.copies, number)
				l = double(t, l, number, doubleOf(l, number))
			default:
				l = w.oneLeaves(t, l, draw(len(w.copies)), draw(3) == 0)
			}
			w.holds(t, l)
		}
		if len(l) != 0 || len(w.came) != 12 {
			t.Fatalf("%d came down; left are %s", len(w.came), briefs(l))
		}
	}
}

// oneLeaves lands, or loses, the copy of a place: just what should come down does.
func (w *wire) oneLeaves(t *testing.T, l []api.Load, at int, lands bool) []api.Load {
	t.Helper()
	number, comes := w.leaves(at, lands)
	do := flight.Lose
	if lands {
		do = flight.Land
	}
	out, load, e := do(l, number)
	if e != api.OK {
		t.Fatalf("%d of %s: error %d", number, briefs(l), int(e))
	}
	if !comes && !equalLoad(load, api.Load{}) {
		t.Fatalf("%d of %s: %s came down", number, briefs(l), brief(load))
	}
	if comes {
		want := w.launched[number]
		if w.came[number] || load.Number != number || load.Epoch != want.Epoch || !equalMass(load.Give, want.Give) {
			t.Fatalf("%d of %s: %s came down; asked for %s, once", number, briefs(l), brief(load), brief(want))
		}
		w.came[number] = true
	}
	return out
}

// holds fails unless l has just the loads that did not come down, each with as many Copies as are under way.
func (w *wire) holds(t *testing.T, l []api.Load) {
	t.Helper()
	left := map[int]api.Load{}
	for number, load := range w.launched {
		if w.came[number] {
			continue
		}
		load.Copies = 0
		for _, n := range w.copies {
			if n == number {
				load.Copies++
			}
		}
		left[number] = load
	}
	if want := listed(left); !equal(l, want) {
		t.Fatalf("%s; asked for %s", briefs(l), briefs(want))
	}
	if e := flight.Check(l); e != api.OK {
		t.Fatalf("Check of %s: error %d", briefs(l), int(e))
	}
}

// acts is all acts on a Number.
func acts(number int) []func(l []api.Load) ([]api.Load, api.Load, api.Errno) {
	return []func(l []api.Load) ([]api.Load, api.Load, api.Errno){
		func(l []api.Load) ([]api.Load, api.Load, api.Errno) {
			out, e := flight.Launch(l, number, number%3, pair(uint32(number+1), 2))
			return out, api.Load{}, e
		},
		func(l []api.Load) ([]api.Load, api.Load, api.Errno) {
			out, e := flight.Double(l, number)
			return out, api.Load{}, e
		},
		func(l []api.Load) ([]api.Load, api.Load, api.Errno) { return flight.Land(l, number) },
		func(l []api.Load) ([]api.Load, api.Load, api.Errno) { return flight.Lose(l, number) },
	}
}

// eachRow is all rows of Numbers below four, of few Copies and many.
func eachRow() [][]api.Load {
	out := [][]api.Load{nil}
	for number := range 4 {
		for _, l := range slices.Clone(out) {
			for _, copies := range []int{1, 2, 16} {
				out = append(out, append(slices.Clone(l), of(number, number%2, copies, pair(uint32(number)+3, 1))))
			}
		}
	}
	return out
}

// TestEitherWayRound does two acts on different Numbers, one ahead of the other, and the other way round: each answers the same, and so is what is left. A refused act has turned nothing.
func TestEitherWayRound(t *testing.T) {
	do := func(l []api.Load, act func(l []api.Load) ([]api.Load, api.Load, api.Errno)) ([]api.Load, api.Load, api.Errno) {
		out, load, e := act(l)
		if e != api.OK {
			return l, load, e
		}
		return out, load, e
	}
	for _, l := range eachRow() {
		for pair := range 16 {
			n, m := pair/4, pair%4
			if n == m {
				continue
			}
			for i, a := range acts(n) {
				for j, b := range acts(m) {
					one, a1, e1 := do(l, a)
					one, b1, f1 := do(one, b)
					other, b2, f2 := do(l, b)
					other, a2, e2 := do(other, a)
					if e1 != e2 || f1 != f2 || !equalLoad(a1, a2) || !equalLoad(b1, b2) || !equal(one, other) {
						t.Fatalf("acts %d on %d and %d on %d of %s: %s and %s", i, n, j, m, briefs(l), briefs(one), briefs(other))
					}
				}
			}
		}
	}
}

// TestEachRow does each act on each Number of each row, there or not.
func TestEachRow(t *testing.T) {
	for _, l := range eachRow() {
		for number := range 5 {
			launch(t, l, number, 2, pair(1, 2), launchOf(l, number, 2, pair(1, 2)))
			double(t, l, number, doubleOf(l, number))
			land(t, l, number, landOf(l, number))
			lose(t, l, number, loseOf(l, number))
		}
		for epoch := range 3 {
			sum(t, l, epoch, sumOf(l, epoch))
		}
	}
}

// P1, P2

// TestAnything hands in what looks like loads, and often is not.
func TestAnything(t *testing.T) {
	draw := stream(71)
	bad, masses, badMasses := faulty(), fitMasses(), unfitMasses()
	for range 20000 {
		l := drawn(draw, draw(maxFly+3))
		fault := api.OK
		if draw(4) == 0 && len(l) > 0 {
			l[draw(len(l))] = bad[draw(len(bad))]
			fault = api.ErrBad
		}
		if draw(8) == 0 && len(l) > 1 {
			at := draw(len(l)-1) + 1
			l[at-1], l[at] = l[at], l[at-1]
			fault = api.ErrBad
		}
		if len(l) > maxFly {
			fault = api.ErrMany
		}
		number, epoch, give := draw(40)-2, draw(6)-1, masses[draw(len(masses))]
		if draw(3) == 0 && len(l) > 0 {
			number = l[draw(len(l))].Number
		}
		if draw(6) == 0 {
			give = badMasses[draw(len(badMasses))]
		}
		if fault != api.OK {
			launch(t, l, number, epoch, give, answer{e: fault})
			double(t, l, number, answer{e: fault})
			land(t, l, number, answer{e: fault})
			lose(t, l, number, answer{e: fault})
			sum(t, l, epoch, answer{e: fault})
			continue
		}
		launch(t, l, number, epoch, give, launchOf(l, number, epoch, give))
		double(t, l, number, doubleOf(l, number))
		land(t, l, number, landOf(l, number))
		lose(t, l, number, loseOf(l, number))
		sum(t, l, epoch, sumOf(l, epoch))
	}
}
