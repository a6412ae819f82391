package seen_test

import (
	"slices"
	"testing"

	"headcount/api"
	"headcount/seen"
)

func TestExamples(t *testing.T) {
	l := []int{1, 4, 6}
	if got := put(t, l, 5); !slices.Equal(got, []int{1, 4, 5, 6}) {
		t.Error(got)
	}
	if n, e := seen.Below(l, 5); e != api.OK || n != 2 {
		t.Error(n, int(e))
	}
	if n, e := seen.First(l); e != api.OK || n != 0 {
		t.Error(n, int(e))
	}
	if n, e := seen.First([]int{0, 1, 3}); e != api.OK || n != 2 {
		t.Error(n, int(e))
	}
	refusedPut(t, []int{1, 4}, 4, api.ErrAgain)
}

// P11.1

func TestCheck(t *testing.T) {
	for _, l := range fit() {
		if e := seen.Check(l); e != api.OK {
			t.Errorf("Check of %s: error %d", brief(l), int(e))
		}
	}
	for _, l := range unfit() {
		if e := seen.Check(l); e != api.ErrBad {
			t.Errorf("Check of %s: error %d", brief(l), int(e))
		}
	}
	for _, l := range many() {
		if e := seen.Check(l); e != api.ErrMany {
			t.Errorf("Check of %s: error %d", brief(l), int(e))
		}
	}
}

// TestCheckOfAll has all lists of at most four of some numbers, of which a few may not be.
func TestCheckOfAll(t *testing.T) {
	some := []int{-1, 0, 1, 2, 7, maxNumber - 1, maxNumber, maxNumber + 1}
	all := [][]int{nil}
	for from := 0; len(all[from]) < 4; from++ {
		for _, n := range some {
			all = append(all, append(slices.Clone(all[from]), n))
		}
	}
	for _, l := range all {
		want := api.OK
		for i, n := range l {
			if n < 0 || n > 1048575 || slices.ContainsFunc(l[:i], func(other int) bool { return other >= n }) {
				want = api.ErrBad
			}
		}
		if e := seen.Check(l); e != want {
			t.Errorf("Check of %v: error %d; asked for %d", l, int(e), int(want))
		}
	}
}

// TestBadAtEachPlace has a single number that may not be, or is not above the one ahead, among as many as there may be.
func TestBadAtEachPlace(t *testing.T) {
	l := row(5, 3, maxHeard)
	for at := range l {
		for _, n := range []int{-1, maxNumber + 1} {
			if e := seen.Check(with(l, at, n)); e != api.ErrBad {
				t.Errorf("Check with %d in place %d: error %d", n, at, int(e))
			}
		}
		if at == 0 {
			continue
		}
		for _, n := range []int{l[at-1], l[at-1] - 1, 0} {
			if e := seen.Check(with(l, at, n)); e != api.ErrBad {
				t.Errorf("Check with %d in place %d: error %d", n, at, int(e))
			}
		}
		if e := seen.Check(with(l, at, l[at-1]+1)); e != api.OK {
			t.Errorf("Check with %d in place %d: error %d", l[at-1]+1, at, int(e))
		}
	}
}

// P11.2

func TestAsked(t *testing.T) {
	for _, l := range fit() {
		for _, n := range about(l) {
			want := asked(l, n)
			if is, e := seen.Has(l, n); e != api.OK || is != want.has {
				t.Errorf("Has of %d in %s: %v, error %d", n, brief(l), is, int(e))
			}
			if below, e := seen.Below(l, n); e != api.OK || below != want.below {
				t.Errorf("Below of %d in %s: %d, error %d; asked for %d", n, brief(l), below, int(e), want.below)
			}
			switch {
			case want.has:
				refusedPut(t, l, n, api.ErrAgain)
			case len(l) == maxHeard:
				refusedPut(t, l, n, api.ErrFull)
			default:
				if got := put(t, l, n); !slices.Equal(got, want.put) {
					t.Errorf("Put of %d into %s: %s", n, brief(l), brief(got))
				}
			}
		}
	}
}

// TestAllOfSmall has each list of numbers below nine, and each of these numbers.
func TestAllOfSmall(t *testing.T) {
	for bits := range 1 << 9 {
		var l []int
		for n := range 9 {
			if bits>>n&1 == 1 {
				l = append(l, n)
			}
		}
		for n := range 10 {
			want := asked(l, n)
			if is, e := seen.Has(l, n); e != api.OK || is != want.has {
				t.Errorf("Has of %d in %v: %v, error %d", n, l, is, int(e))
			}
			if below, e := seen.Below(l, n); e != api.OK || below != want.below {
				t.Errorf("Below of %d in %v: %d, error %d", n, l, below, int(e))
			}
			if want.has {
				refusedPut(t, l, n, api.ErrAgain)
			} else if got := put(t, l, n); !slices.Equal(got, want.put) {
				t.Errorf("Put of %d into %v: %v", n, l, got)
			}
		}
	}
}

func TestByHand(t *testing.T) {
	for _, c := range []struct {
		l     []int
		n     int
		put   []int
		below int
	}{
		{nil, 0, []int{0}, 0},
		{nil, maxNumber, []int{maxNumber}, 0},
		{[]int{}, 7, []int{7}, 0},
		{[]int{7}, 6, []int{6, 7}, 0},
		{[]int{7}, 8, []int{7, 8}, 1},
		{[]int{1, 4, 6}, 0, []int{0, 1, 4, 6}, 0},
		{[]int{1, 4, 6}, 2, []int{1, 2, 4, 6}, 1},
		{[]int{1, 4, 6}, 3, []int{1, 3, 4, 6}, 1},
		{[]int{1, 4, 6}, 7, []int{1, 4, 6, 7}, 3},
		{[]int{1, 4, 6}, maxNumber, []int{1, 4, 6, maxNumber}, 3},
		{[]int{0, maxNumber}, maxNumber - 1, []int{0, maxNumber - 1, maxNumber}, 1},
	} {
		if got := put(t, c.l, c.n); !slices.Equal(got, c.put) {
			t.Errorf("Put of %d into %v: %v", c.n, c.l, got)
		}
		if got, e := seen.Below(c.l, c.n); e != api.OK || got != c.below {
			t.Errorf("Below of %d in %v: %d, error %d", c.n, c.l, got, int(e))
		}
		if is, e := seen.Has(c.l, c.n); e != api.OK || is {
			t.Errorf("Has of %d in %v: %v, error %d", c.n, c.l, is, int(e))
		}
		if is, e := seen.Has(c.put, c.n); e != api.OK || !is {
			t.Errorf("Has of %d in %v: %v, error %d", c.n, c.put, is, int(e))
		}
	}
}

// TestRefused has numbers that are none, and ahead of them lists that may not be.
func TestRefused(t *testing.T) {
	for _, n := range none() {
		for _, l := range fit() {
			refused(t, l, n, api.ErrArg)
		}
	}
	for _, n := range append(none(), 0, 1, 2, 5, maxNumber) {
		for _, l := range unfit() {
			refused(t, l, n, api.ErrBad)
		}
		for _, l := range many() {
			refused(t, l, n, api.ErrMany)
		}
	}
}

// TestFull has as many numbers as there may be: those of them are there again, others find no room, and one less leaves room for one.
func TestFull(t *testing.T) {
	l := row(10, 7, maxHeard)
	for at, n := range l {
		refusedPut(t, l, n, api.ErrAgain)
		refusedPut(t, l, n+1, api.ErrFull)
		without := slices.Concat(l[:at], l[at+1:])
		if got := put(t, without, n); !slices.Equal(got, l) {
			t.Fatalf("Put of %d, the one of place %d: %s", n, at, brief(got))
		}
	}
	refusedPut(t, l, 0, api.ErrFull)
	refusedPut(t, l, maxNumber, api.ErrFull)
}

// P11.3

func TestFirst(t *testing.T) {
	for _, l := range fit() {
		want := slices.Index(marks(l), false)
		if got, e := seen.First(l); e != api.OK || got != want {
			t.Errorf("First of %s: %d, error %d; asked for %d", brief(l), got, int(e), want)
		}
	}
	for _, l := range unfit() {
		if got, e := seen.First(l); e != api.ErrBad || got != 0 {
			t.Errorf("First of %s: %d, error %d", brief(l), got, int(e))
		}
	}
	for _, l := range many() {
		if got, e := seen.First(l); e != api.ErrMany || got != 0 {
			t.Errorf("First of %s: %d, error %d", brief(l), got, int(e))
		}
	}
}

// TestFirstOfEachGap has a gap at each place, of one number or of more, with other gaps behind it and without.
func TestFirstOfEachGap(t *testing.T) {
	for _, count := range []int{0, 1, 2, 3, 4, 5, 15, 16, 17, 100, maxHeard - 1, maxHeard} {
		for gap := 0; gap <= count; gap += count/500 + 1 {
			for _, step := range []int{1, 2, 100} {
				for _, skip := range []int{1, 2, 1000} {
					l := append(row(0, 1, gap), row(gap+skip, step, count-gap)...)
					if got, e := seen.First(l); e != api.OK || got != gap {
						t.Errorf("First of %s: %d, error %d; asked for %d", brief(l), got, int(e), gap)
					}
				}
			}
		}
	}
}

// P11.4

func TestOnlyRead(t *testing.T) {
	for _, l := range slices.Concat(fit(), unfit(), many()[:3]) {
		in := behind(l)
		before := slices.Clone(memory(in))
		seen.Check(in)
		seen.First(in)
		for _, n := range []int{-1, 0, 1, 3, 5, 1000, maxNumber, maxNumber + 1} {
			seen.Has(in, n)
			seen.Put(in, n)
			seen.Below(in, n)
		}
		if !slices.Equal(memory(in), before) {
			t.Fatalf("%s was turned", brief(l))
		}
	}
}

// TestMemory writes over what was answered, also behind its end, and over what was handed in: nothing else may change by it.
func TestMemory(t *testing.T) {
	for _, l := range fit() {
		for _, n := range about(l) {
			if len(l) == maxHeard || slices.Contains(l, n) {
				continue
			}
			in := behind(l)
			before := slices.Clone(memory(in))
			first, second := put(t, in, n), put(t, in, n)
			want := slices.Clone(first)
			scribble(memory(first))
			if !slices.Equal(memory(in), before) || !slices.Equal(second, want) {
				t.Fatalf("Put of %d into %s: the answer shares memory", n, brief(l))
			}
			if !slices.Equal(put(t, in, n), want) {
				t.Fatalf("Put of %d into %s: it hangs on what became of another answer", n, brief(l))
			}
			scribble(memory(in))
			if !slices.Equal(second, want) {
				t.Fatalf("Put of %d into %s: the answer shares memory with what is handed in", n, brief(l))
			}
		}
	}
}

// P11.5

// TestWhatWasPut has that what was put was heard, and that of all other numbers each was heard just if it was so ahead.
func TestWhatWasPut(t *testing.T) {
	for _, l := range fit() {
		for _, n := range about(l) {
			if len(l) == maxHeard || slices.Contains(l, n) {
				continue
			}
			got := put(t, l, n)
			if e := seen.Check(got); e != api.OK {
				t.Fatalf("Put of %d into %s: it may not be, error %d", n, brief(l), int(e))
			}
			for _, other := range append(about(got), n, max(n-1, 0), min(n+1, maxNumber)) {
				want := other == n || slices.Contains(l, other)
				if is, e := seen.Has(got, other); e != api.OK || is != want {
					t.Errorf("Put of %d into %s: Has of %d: %v, error %d", n, brief(l), other, is, int(e))
				}
			}
			refusedPut(t, got, n, api.ErrAgain)
		}
	}
}

// TestEachOrder puts the same few numbers in each order that they can have.
func TestEachOrder(t *testing.T) {
	for _, numbers := range [][]int{{}, {3}, {0, maxNumber}, {0, 1, 2}, {4, 7, 9, 200}, {0, 1, 5, 6, 1000, maxNumber}} {
		for _, order := range orders(numbers) {
			var l []int
			for _, n := range order {
				l = put(t, l, n)
			}
			if !slices.Equal(l, numbers) {
				t.Errorf("%v, put one by one: %v", order, l)
			}
		}
	}
}

// TestManyPut puts numbers till no more find room, in orders that were drawn, from both ends, and some of them again.
func TestManyPut(t *testing.T) {
	draw := stream(53)
	for _, numbers := range [][]int{row(0, 1, maxHeard), row(maxNumber-maxHeard+1, 1, maxHeard), drawn(draw, maxHeard, maxNumber+1)} {
		mixed := slices.Clone(numbers)
		for i := range mixed {
			other := i + draw(len(mixed)-i)
			mixed[i], mixed[other] = mixed[other], mixed[i]
		}
		backwards := slices.Clone(numbers)
		slices.Reverse(backwards)
		for _, order := range [][]int{numbers, backwards, mixed} {
			var l []int
			for i, n := range order {
				l = put(t, l, n)
				if i%64 == 0 {
					refusedPut(t, l, order[draw(i+1)], api.ErrAgain)
				}
			}
			if !slices.Equal(l, numbers) {
				t.Errorf("put one by one: %s; asked for %s", brief(l), brief(numbers))
			}
		}
	}
}

// P1, P2

// TestAnything hands in what looks like numbers that were heard, and often is not.
func TestAnything(t *testing.T) {
	draw := stream(67)
	for range 50000 {
		bound := []int{4, 12, 40, maxNumber + 3}[draw(4)]
		var l []int
		for range draw(9) {
			l = append(l, draw(bound)-draw(2))
		}
		if draw(4) > 0 {
			slices.Sort(l)
			l = slices.Compact(l)
		}
		n := draw(bound) - draw(2)
		rises := slices.IsSorted(l) && len(slices.Compact(slices.Clone(l))) == len(l)
		if !rises || len(l) > 0 && (l[0] < 0 || l[len(l)-1] > maxNumber) {
			refused(t, l, n, api.ErrBad)
			continue
		}
		if n < 0 || n > maxNumber {
			refused(t, l, n, api.ErrArg)
			continue
		}
		want := asked(l, n)
		has, eHas := seen.Has(l, n)
		below, eBelow := seen.Below(l, n)
		if eHas != api.OK || eBelow != api.OK || has != want.has || below != want.below {
			t.Errorf("%d of %v: heard %v, error %d; below %d, error %d", n, l, has, int(eHas), below, int(eBelow))
		}
		if want.has {
			refusedPut(t, l, n, api.ErrAgain)
		} else if got := put(t, l, n); !slices.Equal(got, want.put) {
			t.Errorf("Put of %d into %v: %v", n, l, got)
		}
	}
}
