package choose_test

import (
	"math"
	"slices"
	"testing"

	"headcount/api"
	"headcount/choose"
)

func TestExamples(t *testing.T) {
	c := made(0, 3, 2, 9, 1, 8, 3, 7)
	if d, e := choose.One(c, 4); e != api.OK || d != (api.Desc{Id: 1, Stamp: 8}) {
		t.Error(d, int(e))
	}
	l := some(t, c, []uint64{4, 1, 9})
	if !slices.Equal(l, of(1, 8, 3, 7, 2, 9)) {
		t.Error(l)
	}
	if got := draws(t, c, l); !slices.Equal(got, []uint64{1, 1, 0}) {
		t.Error(got)
	}
}

// P9.1

func TestOne(t *testing.T) {
	for _, c := range fit() {
		for _, draw := range append(edges(), 9, 20, 100, 1000003, 6148914691236517205, 12297829382473034411) {
			if len(c.List) == 0 {
				refusedOne(t, c, draw, api.ErrNone)
				continue
			}
			want := c.List[remainder(draw, len(c.List))]
			if got, e := choose.One(c, draw); e != api.OK || got != want {
				t.Errorf("One of %v by %d: %v, error %d; asked for %v", c, draw, got, int(e), want)
			}
		}
	}
}

func TestOneByHand(t *testing.T) {
	c := made(3, 6, 0, maxStamp, 1, maxStamp, 2, maxStamp, 4, maxStamp-1, 5, 0)
	for _, by := range []struct {
		draw uint64
		id   int
	}{{0, 0}, {1, 1}, {2, 2}, {3, 4}, {4, 5}, {5, 0}, {9, 5}, {10, 0}, {1 << 32, 1}, {1 << 63, 4}, {math.MaxUint64, 0}, {math.MaxUint64 - 1, 5}} {
		if got, e := choose.One(c, by.draw); e != api.OK || got.Id != by.id {
			t.Errorf("One by %d: %v, error %d; asked for %d", by.draw, got, int(e), by.id)
		}
	}
}

// TestOneBad has caches that may not be, of which some have no neighbours.
func TestOneBad(t *testing.T) {
	for _, c := range unfit() {
		for _, draw := range []uint64{0, 1, 5, math.MaxUint64} {
			refusedOne(t, c, draw, api.ErrBad)
		}
	}
}

// P9.2

func TestSome(t *testing.T) {
	for _, c := range fit() {
		for _, by := range drawLists() {
			if got, want := some(t, c, by), chosen(c.List, by); !slices.Equal(got, want) {
				t.Errorf("Some of %v by %v: %v; asked for %v", c, by, got, want)
			}
		}
	}
}

func TestSomeByHand(t *testing.T) {
	six := made(7, 6, 0, 9, 1, 8, 2, 7, 3, 6, 4, 5, 5, 4)
	for _, by := range []struct {
		c     api.Cache
		draws []uint64
		ids   []int
	}{
		{made(0, 1), nil, nil}, {made(0, 1), []uint64{0}, nil}, {made(0, 1), make([]uint64, maxDraws), nil},
		{six, nil, nil},
		{six, []uint64{3}, []int{3}},
		{six, []uint64{0, 0, 0}, []int{0, 1, 2}},
		{six, []uint64{5, 4, 3}, []int{5, 4, 3}},
		{six, []uint64{5, 5, 5, 5, 5, 5}, []int{5, 0, 2, 4, 3, 1}},
		{six, []uint64{1, 1, 1, 1, 1, 1}, []int{1, 2, 3, 4, 5, 0}},
		{six, []uint64{6, 6, 6, 6, 6, 6}, []int{0, 2, 4, 1, 3, 5}},
		{six, []uint64{0, 1, 2, 3, 4, 5, 6, 7}, []int{0, 2, 4, 1, 3, 5}},
		{six, slices.Repeat([]uint64{2}, maxDraws), []int{2, 3, 4, 5, 0, 1}},
		{six, []uint64{math.MaxUint64, math.MaxUint64, math.MaxUint64}, []int{3, 0, 5}},
	} {
		got := some(t, by.c, by.draws)
		var ids []int
		for _, d := range got {
			ids = append(ids, d.Id)
		}
		if !slices.Equal(ids, by.ids) {
			t.Errorf("Some of %v by %v: %v; asked for %v", by.c, by.draws, got, by.ids)
		}
	}
}

// TestSomeRefused has too many draws, and ahead of them caches that may not be.
func TestSomeRefused(t *testing.T) {
	for _, n := range []int{maxDraws + 1, maxDraws + 2, 1 << 16} {
		for _, c := range fit() {
			refusedSome(t, c, make([]uint64, n), api.ErrMany)
		}
	}
	for _, c := range unfit() {
		for _, n := range []int{0, 1, maxDraws, maxDraws + 1} {
			refusedSome(t, c, make([]uint64, n), api.ErrBad)
		}
	}
}

// TestDraws has, of each cache, all that can be chosen.
func TestDraws(t *testing.T) {
	for _, c := range fit() {
		for _, l := range orders(c.List) {
			if got, want := draws(t, c, l), counted(c.List, l); !slices.Equal(got, want) {
				t.Errorf("Draws of %v and %v: %v; asked for %v", c, l, got, want)
			}
		}
	}
}

// TestDrawsAreLeast goes through all draws that are small, and holds those that choose l against the answer.
func TestDrawsAreLeast(t *testing.T) {
	for _, c := range fit() {
		if len(c.List) > 4 {
			continue
		}
		for _, l := range orders(c.List) {
			got := draws(t, c, l)
			found := false
			for number := range 1 << (3 * len(l)) {
				by := make([]uint64, len(l))
				for i := range by {
					by[i] = uint64(number >> (3 * i) & 7)
				}
				if !slices.Equal(chosen(c.List, by), l) {
					continue
				}
				found = found || slices.Equal(got, by)
				for i := range by {
					if by[i] < got[i] {
						t.Errorf("Draws of %v and %v: %v; %v choose it too", c, l, got, by)
					}
				}
			}
			if !found {
				t.Errorf("Draws of %v and %v: %v do not choose it", c, l, got)
			}
		}
	}
}

// TestDrawsRefused has, in each place, what is no neighbour, or one that was chosen already.
func TestDrawsRefused(t *testing.T) {
	for _, c := range fit() {
		strange := of(c.Own, 5, c.Own, 0, -1, 5, maxNodes, 5, 1, -1, 1, maxStamp+1, math.MinInt, 0, 0, math.MaxInt)
		for id := range maxNodes {
			strange = append(strange, of(id, 77)...)
		}
		for _, d := range c.List {
			strange = append(strange, of(d.Id, d.Stamp+1, d.Id, d.Stamp-1, d.Id+1<<32, d.Stamp, d.Id, d.Stamp+1<<32, d.Stamp, d.Id)...)
		}
		strange = slices.DeleteFunc(strange, func(d api.Desc) bool { return slices.Contains(c.List, d) })
		for n := range len(c.List) + 1 {
			for at := range n + 1 {
				for _, d := range append(slices.Clone(strange), c.List[:at]...) {
					refusedDraws(t, c, slices.Insert(slices.Clone(c.List[:n]), at, d), api.ErrNone)
				}
				for _, d := range c.List[at:n] {
					refusedDraws(t, c, slices.Insert(slices.Clone(c.List[:n]), at, d), api.ErrNone)
				}
			}
		}
		refusedDraws(t, c, make([]api.Desc, 1<<16), api.ErrNone)
	}
}

// TestDrawsBad has caches that may not be, also with what are no neighbours.
func TestDrawsBad(t *testing.T) {
	for _, c := range unfit() {
		for _, l := range [][]api.Desc{nil, {}, c.List[:min(len(c.List), 1)], c.List, of(1, 5), of(-1, 5), of(1, 5, 1, 5), make([]api.Desc, 100)} {
			refusedDraws(t, c, l, api.ErrBad)
		}
	}
}

// P9.3

func TestOnlyRead(t *testing.T) {
	for _, c := range append(fit(), unfit()...) {
		for _, by := range append(drawLists(), make([]uint64, maxDraws+1)) {
			in, taken := markedCache(c), marked(by, 7, 77, 777)
			picked := marked(chosen(c.List[:min(len(c.List), maxCap)], by), of(8, 8, 1, 1)...)
			before, beforeTaken, beforePicked := slices.Clone(memory(in.List)), slices.Clone(memory(taken)), slices.Clone(memory(picked))
			choose.One(in, 5)
			choose.Some(in, taken)
			choose.Draws(in, picked)
			if !slices.Equal(memory(in.List), before) || !slices.Equal(memory(taken), beforeTaken) || !slices.Equal(memory(picked), beforePicked) {
				t.Fatalf("%v, %v or %v was turned", brief(c), by, picked)
			}
		}
	}
}

// TestMemory writes over what was answered, also behind its end, and over what was handed in: nothing else may change by it.
func TestMemory(t *testing.T) {
	for _, c := range fit() {
		for _, by := range drawLists() {
			in, taken := markedCache(c), marked(by, 7, 77, 777)
			before, beforeTaken := slices.Clone(memory(in.List)), slices.Clone(memory(taken))
			first, second := some(t, in, taken), some(t, in, taken)
			want := slices.Clone(first)
			picked := marked(want, of(8, 8, 1, 1)...)
			beforePicked := slices.Clone(memory(picked))
			firstDraws, secondDraws := draws(t, in, picked), draws(t, in, picked)
			wantDraws := slices.Clone(firstDraws)
			scribble(memory(first))
			scribbleDraws(memory(firstDraws))
			if !slices.Equal(memory(in.List), before) || !slices.Equal(memory(taken), beforeTaken) || !slices.Equal(memory(picked), beforePicked) {
				t.Fatalf("%v by %v: the answer shares memory with what is handed in", c, by)
			}
			if !slices.Equal(some(t, in, taken), want) || !slices.Equal(draws(t, in, picked), wantDraws) {
				t.Fatalf("%v by %v: it hangs on what became of another answer", c, by)
			}
			scribble(memory(in.List))
			scribbleDraws(memory(taken))
			scribble(memory(picked))
			if !slices.Equal(second, want) || !slices.Equal(secondDraws, wantDraws) {
				t.Fatalf("%v by %v: the answer shares memory with what is handed in, or with another answer", c, by)
			}
		}
	}
}

// P9.4

// TestInARow has as many draws in a row as there are neighbours, from anywhere: each neighbour is chosen once, alone or together.
func TestInARow(t *testing.T) {
	for _, c := range fit() {
		n := uint64(len(c.List))
		for _, from := range append(edges(), math.MaxUint64-20) {
			from = min(from, math.MaxUint64-n)
			var row []uint64
			var each []api.Desc
			for i := range n {
				row = append(row, from+i)
				d, e := choose.One(c, from+i)
				if e != api.OK || slices.Contains(each, d) || !slices.Contains(c.List, d) {
					t.Errorf("One of %v by %d: %v, error %d, after %v", c, from+i, d, int(e), each)
				}
				each = append(each, d)
			}
			for i, d := range some(t, c, row) {
				if at := slices.Index(each, d); at < 0 {
					t.Errorf("Some of %v by %v: %v in place %d", c, row, d, i)
				} else {
					each = slices.Delete(each, at, at+1)
				}
			}
			if len(each) > 0 {
				t.Errorf("Some of %v by %v: without %v", c, row, each)
			}
		}
	}
}

// TestNeverTwice has also that it is as many as draws, or as neighbours, and that all of them are neighbours.
func TestNeverTwice(t *testing.T) {
	for _, c := range fit() {
		for _, by := range drawLists() {
			got := some(t, c, by)
			if len(got) != min(len(by), len(c.List)) {
				t.Errorf("Some of %v by %v: %v", c, by, got)
			}
			for i, d := range got {
				if slices.Contains(got[:i], d) || !slices.Contains(c.List, d) {
					t.Errorf("Some of %v by %v: %v", c, by, got)
				}
			}
		}
	}
}

// TestOtherDraws has more draws than there are neighbours: those behind count for nothing.
func TestOtherDraws(t *testing.T) {
	for _, c := range fit() {
		for _, by := range drawLists() {
			want := some(t, c, by[:min(len(by), len(c.List))])
			if got := some(t, c, by); !slices.Equal(got, want) {
				t.Errorf("Some of %v by %v: %v; asked for %v", c, by, got, want)
			}
		}
	}
}

// TestUndone has both ways: Draws undo Some, and Some undo Draws.
func TestUndone(t *testing.T) {
	for _, c := range fit() {
		for _, by := range drawLists() {
			var want []uint64
			for i, draw := range by[:min(len(by), len(c.List))] {
				want = append(want, uint64(remainder(draw, len(c.List)-i)))
			}
			if got := draws(t, c, some(t, c, by)); !slices.Equal(got, want) {
				t.Errorf("Draws of what %v chose of %v: %v; asked for %v", by, c, got, want)
			}
		}
		for _, l := range orders(c.List) {
			if got := some(t, c, draws(t, c, l)); !slices.Equal(got, l) {
				t.Errorf("Some of %v by the Draws of %v: %v", c, l, got)
			}
		}
	}
}

// P1, P2

// TestAnything hands in what looks like neighbours and draws, and is often none.
func TestAnything(t *testing.T) {
	draw := stream(67)
	below := func(n uint64) int { return int(draw() % n) }
	caches := append(fit(), unfit()...)
	var may [][][]api.Desc
	for _, c := range fit() {
		may = append(may, orders(c.List))
	}
	for range 20000 {
		at := below(uint64(len(caches)))
		c := caches[at]
		by := make([]uint64, below(70))
		for i := range by {
			by[i] = draw() >> below(64)
		}
		var l []api.Desc
		for range below(4) {
			if n := len(c.List); n > 0 && below(5) > 0 {
				l = append(l, c.List[below(uint64(n))])
			} else {
				l = append(l, api.Desc{Id: below(9) - 1, Stamp: below(10)})
			}
		}
		switch {
		case at >= len(may):
			refusedSome(t, c, by, api.ErrBad)
			refusedDraws(t, c, l, api.ErrBad)
			continue
		case len(by) > maxDraws:
			refusedSome(t, c, by, api.ErrMany)
		case !slices.Equal(some(t, c, by), chosen(c.List, by)):
			t.Errorf("Some of %v by %v: %v", c, by, some(t, c, by))
		}
		if !slices.ContainsFunc(may[at], func(order []api.Desc) bool { return slices.Equal(order, l) }) {
			refusedDraws(t, c, l, api.ErrNone)
		} else if got := draws(t, c, l); !slices.Equal(got, counted(c.List, l)) {
			t.Errorf("Draws of %v and %v: %v", c, l, got)
		}
	}
}
