package timer_test

import (
	"math"
	"slices"
	"testing"

	"headcount/api"
	"headcount/timer"
)

func TestExamples(t *testing.T) {
	l := order(t, of(5, 1, 3, 9, 5, 0, 3, 9), answer{l: of(3, 9, 5, 0, 5, 1)})
	due(t, l, 3, answer{l: of(3, 9), left: of(5, 0, 5, 1)})
	due(t, l, 2, answer{left: l})
	due(t, l, 5, answer{l: l})
}

// P14.1

func TestCheck(t *testing.T) {
	for _, l := range fit() {
		if e := timer.Check(l); e != api.OK {
			t.Errorf("Check of %s: error %d", brief(l), int(e))
		}
	}
	for _, l := range unfit() {
		if e := timer.Check(l); e != api.ErrBad {
			t.Errorf("Check of %s: error %d", brief(l), int(e))
		}
	}
	for _, l := range many() {
		if e := timer.Check(l); e != api.ErrMany {
			t.Errorf("Check of %s: error %d", brief(l), int(e))
		}
	}
}

// TestOfEach has each edge of At with each edge of Number, in all calls that ask whether a timer may be.
func TestOfEach(t *testing.T) {
	for _, at := range []int{math.MinInt, -1 << 32, -1, 0, 1, maxStamp - 1, maxStamp, maxStamp + 1, 1 << 32, math.MaxInt} {
		for _, number := range []int{math.MinInt, -1 << 32, -1, 0, 1, maxNumber - 1, maxNumber, maxNumber + 1, 1 << 32, math.MaxInt} {
			l, want := of(at, number), answer{l: of(at, number)}
			if at < 0 || at > 2147483647 || number < 0 || number > 1048575 {
				want = answer{e: api.ErrBad}
			}
			if e := timer.Check(l); e != want.e {
				t.Errorf("Check of %v: error %d; asked for %d", l, int(e), int(want.e))
			}
			order(t, l, want)
			set(t, nil, l[0], want)
		}
	}
}

// TestCheckOfAll has all rows of at most four of some timers: they may be just if each is ahead of the next one.
func TestCheckOfAll(t *testing.T) {
	some := of(0, 0, 0, 1, 1, 0, 1, 1, 1, maxNumber, 2, 0, maxStamp, 0)
	var all func(l []api.Timer, last int, rise bool)
	all = func(l []api.Timer, last int, rise bool) {
		want := api.OK
		if !rise {
			want = api.ErrBad
		}
		if e := timer.Check(l); e != want {
			t.Errorf("Check of %v: error %d; asked for %d", l, int(e), int(want))
		}
		if len(l) == 4 {
			return
		}
		for i, x := range some {
			all(append(slices.Clone(l), x), i, rise && i > last)
		}
	}
	all(nil, -1, true)
}

// TestBadAtEachPlace has a single timer that may not be, or that the one ahead is not ahead of, among as many as there may be.
func TestBadAtEachPlace(t *testing.T) {
	l := row(maxTimers)
	for at := range l {
		for _, x := range of(-1, 0, maxStamp+1, 0, l[at].At, -1, l[at].At, maxNumber+1) {
			bad := with(l, at, x)
			if e := timer.Check(bad); e != api.ErrBad {
				t.Errorf("Check with %v in place %d: error %d", x, at, int(e))
			}
			order(t, bad, answer{e: api.ErrBad})
		}
		if at == 0 {
			continue
		}
		for _, x := range []api.Timer{l[at-1], {}} {
			bad := with(l, at, x)
			if e := timer.Check(bad); e != api.ErrBad {
				t.Errorf("Check with %v in place %d: error %d", x, at, int(e))
			}
			order(t, bad, orderOf(bad))
		}
	}
}

func TestOrder(t *testing.T) {
	draw := stream(31)
	for _, l := range slices.Concat(fit(), unordered()) {
		order(t, l, orderOf(l))
		order(t, mixed(draw, l), orderOf(l))
		if 2*len(l) <= maxTimers {
			order(t, mixed(draw, slices.Concat(l, l)), orderOf(l))
			order(t, slices.Concat(l, l), orderOf(l))
		}
	}
	for _, l := range faultyLists() {
		order(t, l, answer{e: api.ErrBad})
		order(t, mixed(draw, l), answer{e: api.ErrBad})
	}
	for _, l := range many() {
		order(t, l, answer{e: api.ErrMany})
	}
}

func TestOrderByHand(t *testing.T) {
	for _, by := range [][2][]api.Timer{
		{nil, nil},
		{{}, nil},
		{of(3, 5), of(3, 5)},
		{of(3, 5, 3, 5), of(3, 5)},
		{of(0, 0, 0, 0, 0, 0), of(0, 0)},
		{of(0, 1, 1, 0), of(0, 1, 1, 0)},
		{of(1, 0, 0, 1), of(0, 1, 1, 0)},
		{of(2, 9, 2, 3, 2, 6), of(2, 3, 2, 6, 2, 9)},
		{of(maxStamp, maxNumber, 0, 0, maxStamp, 0, 0, maxNumber), of(0, 0, 0, maxNumber, maxStamp, 0, maxStamp, maxNumber)},
		{of(4, 7, 3, 7, 4, 7, 2, 7, 3, 7), of(2, 7, 3, 7, 4, 7)},
		{of(6, 1, 5, 2, 4, 3, 3, 4, 2, 5, 1, 6), of(1, 6, 2, 5, 3, 4, 4, 3, 5, 2, 6, 1)},
	} {
		order(t, by[0], answer{l: by[1]})
	}
}

// TestOrderOfAllPlaces has a few timers in each order in which they can stand.
func TestOrderOfAllPlaces(t *testing.T) {
	for _, l := range [][]api.Timer{of(0, 0, 0, 1, 1, 0, 1, 1, 2, 0, 3, 9), of(3, 9, 3, 9, 5, 0, 5, 0, 5, 1, 5, 1), of(1, 5, 2, 4, 3, 3, 4, 2, 5, 1, 6, 0), of(7, 7, 7, 7, 7, 7, 7, 7, 7, 7, 7, 8)} {
		want := orderOf(l)
		inEachOrder(slices.Clone(l), 0, func(p []api.Timer) { order(t, p, want) })
	}
}

func inEachOrder(l []api.Timer, from int, do func(l []api.Timer)) {
	if from == len(l) {
		do(l)
		return
	}
	for i := from; i < len(l); i++ {
		l[from], l[i] = l[i], l[from]
		inEachOrder(l, from+1, do)
		l[from], l[i] = l[i], l[from]
	}
}

// P14.2

// near is the timers of l, those beside them, and edges; of a long l, some of it.
func near(l []api.Timer) []api.Timer {
	out := append(fine()[:20], one(maxStamp, maxNumber), one(maxStamp, 0), one(0, maxNumber))
	for at := 0; at < len(l); at += len(l)/20 + 1 {
		x := l[at]
		out = append(out, x, one(x.At-1, x.Number), one(x.At+1, x.Number), one(x.At, x.Number-1), one(x.At, x.Number+1))
	}
	return append(out, l[max(len(l)-1, 0):]...)
}

func TestSet(t *testing.T) {
	bad := faulty()
	for i, l := range fit() {
		for _, x := range append(near(l), bad[i%len(bad)], bad[(i+7)%len(bad)], bad[(i*5)%len(bad)]) {
			set(t, l, x, setOf(l, x))
		}
	}
	for _, x := range bad {
		for _, l := range [][]api.Timer{nil, of(3, 3), row(maxTimers - 1), row(maxTimers)} {
			set(t, l, x, answer{e: api.ErrBad})
		}
	}
}

func TestSetByHand(t *testing.T) {
	l := of(3, 9, 5, 0, 5, 2)
	for _, by := range []struct {
		l    []api.Timer
		x    api.Timer
		want answer
	}{
		{nil, one(0, 0), answer{l: of(0, 0)}},
		{nil, one(maxStamp, maxNumber), answer{l: of(maxStamp, maxNumber)}},
		{l, one(3, 8), answer{l: of(3, 8, 3, 9, 5, 0, 5, 2)}},
		{l, one(3, 10), answer{l: of(3, 9, 3, 10, 5, 0, 5, 2)}},
		{l, one(4, 100), answer{l: of(3, 9, 4, 100, 5, 0, 5, 2)}},
		{l, one(5, 1), answer{l: of(3, 9, 5, 0, 5, 1, 5, 2)}},
		{l, one(5, 3), answer{l: of(3, 9, 5, 0, 5, 2, 5, 3)}},
		{l, one(6, 0), answer{l: of(3, 9, 5, 0, 5, 2, 6, 0)}},
		{l, one(0, maxNumber), answer{l: of(0, maxNumber, 3, 9, 5, 0, 5, 2)}},
		{l, one(5, 9), answer{l: of(3, 9, 5, 0, 5, 2, 5, 9)}},
		{l, one(3, 9), answer{e: api.ErrAgain}},
		{l, one(5, 0), answer{e: api.ErrAgain}},
		{l, one(5, 2), answer{e: api.ErrAgain}},
		{l, one(-1, 9), answer{e: api.ErrBad}},
		{l, one(3, maxNumber+1), answer{e: api.ErrBad}},
		{of(5, 0, 3, 9), one(4, 4), answer{e: api.ErrBad}},
		{of(5, 0, 5, 0), one(5, 0), answer{e: api.ErrBad}},
		{row(maxTimers), row(maxTimers)[700], answer{e: api.ErrAgain}},
		{row(maxTimers), one(maxStamp, 0), answer{e: api.ErrFull}},
		{row(maxTimers), one(maxStamp+1, 0), answer{e: api.ErrBad}},
		{row(maxTimers - 1), one(maxStamp, 0), answer{l: append(row(maxTimers-1), one(maxStamp, 0))}},
		{row(maxTimers + 1), one(-1, 0), answer{e: api.ErrMany}},
		{row(maxTimers + 1), row(maxTimers + 1)[0], answer{e: api.ErrMany}},
	} {
		set(t, by.l, by.x, by.want)
	}
}

// TestFull has as many timers as there may be: those of them are there again, others find no room, and one less leaves room for one.
func TestFull(t *testing.T) {
	l := row(maxTimers)
	for at, x := range l {
		set(t, l, x, answer{e: api.ErrAgain})
		set(t, l, one(x.At+1, x.Number), answer{e: api.ErrFull})
		set(t, slices.Concat(l[:at], l[at+1:]), x, answer{l: l})
	}
}

func TestNext(t *testing.T) {
	for _, l := range fit() {
		next(t, l, nextOf(l))
	}
	next(t, nil, answer{e: api.ErrNone})
	next(t, []api.Timer{}, answer{e: api.ErrNone})
	next(t, of(3, 9, 5, 0), answer{one: one(3, 9)})
	next(t, of(0, 0), answer{})
	next(t, of(maxStamp, maxNumber), answer{one: one(maxStamp, maxNumber)})
}

// ticks is the Ats of l, those beside them, and edges; of a long l, some of it.
func ticks(l []api.Timer) []int {
	out := []int{0, 1, 2, 3, 4, 5, 6, 40, maxStamp / 2, maxStamp - 1, maxStamp}
	for at := 0; at < len(l); at += len(l)/20 + 1 {
		out = append(out, l[at].At-1, l[at].At, l[at].At+1)
	}
	return out
}

func TestDue(t *testing.T) {
	for _, l := range fit() {
		for _, now := range append(ticks(l), beyond(maxStamp)...) {
			due(t, l, now, dueOf(l, now))
		}
	}
}

func TestDueByHand(t *testing.T) {
	l := of(0, 7, 3, 9, 5, 0, 5, 1, maxStamp, 0)
	due(t, l, 0, answer{l: l[:1], left: l[1:]})
	due(t, l, 2, answer{l: l[:1], left: l[1:]})
	due(t, l, 3, answer{l: l[:2], left: l[2:]})
	due(t, l, 4, answer{l: l[:2], left: l[2:]})
	due(t, l, 5, answer{l: l[:4], left: l[4:]})
	due(t, l, maxStamp-1, answer{l: l[:4], left: l[4:]})
	due(t, l, maxStamp, answer{l: l})
	due(t, l[1:], 0, answer{left: l[1:]})
	due(t, nil, 0, answer{})
	due(t, nil, maxStamp, answer{})
	due(t, l, -1, answer{e: api.ErrArg})
	due(t, l, maxStamp+1, answer{e: api.ErrArg})
	due(t, nil, -1, answer{e: api.ErrArg})
}

// numbers is the Numbers of l, those beside them, and edges; of a long l, some of it.
func numbers(l []api.Timer) []int {
	out := []int{0, 1, 2, 3, 5, 9, maxNumber / 2, maxNumber - 1, maxNumber}
	for at := 0; at < len(l); at += len(l)/20 + 1 {
		out = append(out, l[at].Number-1, l[at].Number, l[at].Number+1)
	}
	return out
}

func TestOff(t *testing.T) {
	for _, l := range fit() {
		for _, number := range append(numbers(l), beyond(maxNumber)...) {
			off(t, l, number, offOf(l, number))
		}
	}
}

func TestOffByHand(t *testing.T) {
	l := of(0, 7, 3, 9, 5, 0, 5, 7, 6, 7, maxStamp, maxNumber)
	off(t, l, 7, answer{l: of(3, 9, 5, 0, maxStamp, maxNumber)})
	off(t, l, 9, answer{l: of(0, 7, 5, 0, 5, 7, 6, 7, maxStamp, maxNumber)})
	off(t, l, 0, answer{l: of(0, 7, 3, 9, 5, 7, 6, 7, maxStamp, maxNumber)})
	off(t, l, maxNumber, answer{l: l[:5]})
	off(t, l, 5, answer{l: l})
	off(t, of(1, 4, 2, 4, 3, 4), 4, answer{})
	off(t, nil, 0, answer{})
	off(t, l, -1, answer{e: api.ErrArg})
	off(t, l, maxNumber+1, answer{e: api.ErrArg})
	off(t, nil, -1, answer{e: api.ErrArg})
}

// TestRefused has timers that may not be: Check's error stands ahead of all others.
func TestRefused(t *testing.T) {
	for _, l := range unfit() {
		refused(t, l, api.ErrBad)
	}
	for _, l := range many() {
		refused(t, l, api.ErrMany)
	}
}

// refused fails unless all calls but Order, with what may be asked and what may not, are refused by e.
func refused(t *testing.T, l []api.Timer, e api.Errno) {
	t.Helper()
	next(t, l, answer{e: e})
	for at, n := range []int{-1, 0, 3, maxNumber, maxNumber + 1, maxStamp, maxStamp + 1} {
		set(t, l, one(n, 3), answer{e: e})
		set(t, l, l[at%len(l)], answer{e: e})
		due(t, l, n, answer{e: e})
		off(t, l, n, answer{e: e})
	}
}

// P14.3

// done is each call on l, so as to tell what it answers; what a call is asked stands in the middle of l, if it can.
func done(l []api.Timer) []func() [][]api.Timer {
	middle := one(4, 4)
	if len(l) > 0 {
		middle = l[len(l)/2]
	}
	return []func() [][]api.Timer{
		func() [][]api.Timer { got, _ := timer.Order(l); return [][]api.Timer{got} },
		func() [][]api.Timer { got, _ := timer.Set(l, one(middle.At, 3)); return [][]api.Timer{got} },
		func() [][]api.Timer { got, _ := timer.Set(l, one(maxStamp, maxNumber)); return [][]api.Timer{got} },
		func() [][]api.Timer { over, left, _ := timer.Due(l, middle.At); return [][]api.Timer{over, left} },
		func() [][]api.Timer { over, left, _ := timer.Due(l, maxStamp); return [][]api.Timer{over, left} },
		func() [][]api.Timer { over, left, _ := timer.Due(l, 0); return [][]api.Timer{over, left} },
		func() [][]api.Timer { got, _ := timer.Off(l, middle.Number); return [][]api.Timer{got} },
		func() [][]api.Timer { got, _ := timer.Off(l, 500); return [][]api.Timer{got} },
	}
}

func cloned(l [][]api.Timer) [][]api.Timer {
	var out [][]api.Timer
	for _, part := range l {
		out = append(out, slices.Clone(part))
	}
	return out
}

func equal(a, b [][]api.Timer) bool { return slices.EqualFunc(a, b, slices.Equal) }

func TestOnlyRead(t *testing.T) {
	for _, l := range slices.Concat(fit(), unfit(), many()) {
		in := behind(l)
		before := slices.Clone(memory(in))
		timer.Check(in)
		timer.Next(in)
		for _, do := range done(in) {
			do()
		}
		timer.Set(in, one(-1, 0))
		timer.Due(in, -1)
		timer.Off(in, -1)
		if !slices.Equal(memory(in), before) {
			t.Fatalf("%s was turned", brief(l))
		}
	}
}

// TestMemory writes over each part of what was answered, also behind its end, and over what was handed in: nothing else may change by it.
func TestMemory(t *testing.T) {
	for _, l := range slices.Concat(fit(), unordered()) {
		in := behind(l)
		before := slices.Clone(memory(in))
		for i, do := range done(in) {
			first, second := do(), do()
			want := cloned(first)
			for at, part := range first {
				scribble(memory(part))
				for other := at + 1; other < len(first); other++ {
					if !slices.Equal(first[other], want[other]) {
						t.Fatalf("call %d of %s: two parts of the answer share memory", i, brief(l))
					}
				}
			}
			if !slices.Equal(memory(in), before) || !equal(second, want) || !equal(do(), want) {
				t.Fatalf("call %d of %s: the answer shares memory", i, brief(l))
			}
			scribble(memory(in))
			if !equal(second, want) {
				t.Fatalf("call %d of %s: the answer shares memory with what is handed in", i, brief(l))
			}
			scribble(memory(in))
		}
	}
}

// P14.4

// setAll is what timers are, set one by one.
func setAll(t *testing.T, l []api.Timer) []api.Timer {
	t.Helper()
	var out []api.Timer
	for _, x := range l {
		want := setOf(out, x)
		if got := set(t, out, x, want); want.e == api.OK {
			out = got
		}
	}
	return out
}

// TestSetInEachOrder sets a few timers, some of them again, in each order in which they can stand.
func TestSetInEachOrder(t *testing.T) {
	for _, l := range [][]api.Timer{of(0, 0, 0, 1, 1, 0, 1, 1, 2, 0), of(3, 9, 3, 9, 5, 0, 5, 1, 5, 1), of(1, 5, 2, 4, 3, 3, 4, 2, maxStamp, maxNumber)} {
		want, _ := timer.Order(l)
		inEachOrder(slices.Clone(l), 0, func(p []api.Timer) {
			if got := setAll(t, p); !slices.Equal(got, want) {
				t.Errorf("%v, set one by one: %v; asked for %v", p, got, want)
			}
		})
	}
}

func TestSetIsOrder(t *testing.T) {
	draw := stream(37)
	for _, l := range fit() {
		if len(l) > 100 {
			continue
		}
		for _, p := range [][]api.Timer{l, mixed(draw, l), mixed(draw, slices.Concat(l, l))} {
			want, e := timer.Order(p)
			if got := setAll(t, p); e != api.OK || !slices.Equal(got, want) {
				t.Errorf("%s, set one by one: %s; Order tells %s, error %d", brief(p), brief(got), brief(want), int(e))
			}
		}
	}
}

// TestManySet sets timers till no more find room, from both ends, and mixed.
func TestManySet(t *testing.T) {
	draw := stream(41)
	for _, l := range [][]api.Timer{row(maxTimers), drawn(draw, maxTimers, 50, 50), drawn(draw, maxTimers, maxStamp+1, maxNumber+1)} {
		backwards := slices.Clone(l)
		slices.Reverse(backwards)
		for _, p := range [][]api.Timer{l, backwards, mixed(draw, l)} {
			var got []api.Timer
			for i, x := range p {
				var e api.Errno
				if got, e = timer.Set(got, x); e != api.OK || len(got) != i+1 {
					t.Fatalf("Set of %v, the one of place %d: %d timers, error %d", x, i, len(got), int(e))
				}
			}
			if !slices.Equal(got, l) {
				t.Errorf("set one by one: %s; asked for %s", brief(got), brief(l))
			}
			order(t, p, answer{l: got})
		}
	}
}

// TestTicks has ticks one by one: what is due at them is, put together, what is due at the last one at once.
func TestTicks(t *testing.T) {
	draw := stream(43)
	for _, l := range fit() {
		for _, steps := range []int{1, 2, 3, 7, 60} {
			var over []api.Timer
			left, now := l, 0
			for range steps {
				now += draw(3)
				if draw(9) == 0 && len(l) > 0 {
					now = max(now, l[draw(len(l))].At)
				}
				if now > maxStamp {
					break
				}
				var some []api.Timer
				some, left = due(t, left, now, dueOf(left, now))
				over = append(over, some...)
				if e := timer.Check(over); e != api.OK {
					t.Fatalf("due one by one till %d of %s: error %d", now, brief(l), int(e))
				}
				due(t, l, now, answer{l: over, left: left})
			}
		}
	}
}

// TestEachTick has all ticks, each above the one ahead by 1.
func TestEachTick(t *testing.T) {
	draw := stream(47)
	for count := range 60 {
		l := drawn(draw, count, 50, 5)
		var over []api.Timer
		left := l
		for now := range 50 {
			var some []api.Timer
			some, left = due(t, left, now, dueOf(left, now))
			for _, x := range some {
				if x.At != now {
					t.Fatalf("due at %d of %s: %v", now, brief(l), x)
				}
			}
			over = append(over, some...)
		}
		if !slices.Equal(over, l) || len(left) > 0 {
			t.Errorf("due one by one of %s: %s, and %s", brief(l), brief(over), brief(left))
		}
	}
}

// TestOfEachAnswer has that what is answered may be handed in again, and tells the same then.
func TestOfEachAnswer(t *testing.T) {
	for _, l := range fit() {
		for i, do := range done(l) {
			for _, part := range do() {
				if e := timer.Check(part); e != api.OK {
					t.Errorf("call %d of %s: it may not be, error %d", i, brief(l), int(e))
				}
				order(t, part, answer{l: part})
			}
		}
		for _, number := range numbers(l) {
			if number < 0 || number > maxNumber {
				continue
			}
			once := off(t, l, number, offOf(l, number))
			off(t, once, number, answer{l: once})
		}
	}
}

// P1, P2

// TestAnything hands in what looks like timers, and often may not be.
func TestAnything(t *testing.T) {
	draw := stream(53)
	number := func() int {
		switch draw(30) {
		case 0:
			return beyond(maxNumber)[draw(12)]
		case 1:
			return beyond(maxStamp)[draw(12)]
		case 2:
			return []int{maxNumber, maxStamp}[draw(2)]
		}
		return draw(6)
	}
	for range 60000 {
		var l []api.Timer
		for range draw(7) {
			l = append(l, one(number(), number()))
		}
		if draw(3) > 0 && eachMayBe(l) {
			l = byKeys(keysOf(l))
		}
		if e := timer.Check(l); e != checkOf(l) {
			t.Fatalf("Check of %v: error %d", l, int(e))
		}
		x, n := one(number(), number()), number()
		order(t, l, orderOf(l))
		set(t, l, x, setOf(l, x))
		next(t, l, nextOf(l))
		due(t, l, n, dueOf(l, n))
		off(t, l, n, offOf(l, n))
	}
}
