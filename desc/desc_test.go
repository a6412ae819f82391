package desc_test

import (
	"maps"
	"math"
	"slices"
	"testing"

	"headcount/api"
	"headcount/desc"
)

func TestExamples(t *testing.T) {
	l := of(1, 5, 0, 5, 2, 9, 1, 7)
	answered(t, calls()[0], l, of(2, 9, 1, 7, 0, 5, 1, 5))
	answered(t, calls()[1], l, of(2, 9, 1, 7, 0, 5))
}

// P7.1

func TestCheck(t *testing.T) {
	for _, l := range lists() {
		if e := desc.Check(l); e != api.OK {
			t.Errorf("Check of %v: error %d", l, int(e))
		}
	}
}

func TestCheckOfOne(t *testing.T) {
	for _, id := range []int{math.MinInt, -maxNodes, -1, 0, 1, maxNodes - 2, maxNodes - 1, maxNodes, maxNodes + 1, 1 << 32, math.MaxInt} {
		for _, stamp := range []int{math.MinInt, -maxStamp, -1, 0, 1, maxStamp - 1, maxStamp, maxStamp + 1, 1 << 32, math.MaxInt} {
			want := api.ErrBad
			if 0 <= id && id <= 7 && 0 <= stamp && stamp <= 2147483647 {
				want = api.OK
			}
			if e := desc.Check(of(id, stamp)); e != want {
				t.Errorf("Check of (%d, %d): error %d; asked for %d", id, stamp, int(e), int(want))
			}
		}
	}
}

func TestBad(t *testing.T) {
	draw := stream(29)
	for _, bad := range unfit() {
		refused(t, []api.Desc{bad}, api.ErrBad)
		refused(t, slices.Repeat([]api.Desc{bad}, maxDescs), api.ErrBad)
		for _, n := range []int{2, 3, 9, maxDescs} {
			for _, at := range []int{0, int(draw() % uint64(n)), n - 1} {
				l := drawn(draw, n, maxStamp+1)
				l[at] = bad
				refused(t, l, api.ErrBad)
			}
		}
	}
}

// TestBadAtEachPlace has a single one that may not be, among as many as there may be.
func TestBadAtEachPlace(t *testing.T) {
	for _, bad := range of(-1, 5, maxNodes, 5, 3, -1, 3, maxStamp+1, maxNodes, -1) {
		for at := range maxDescs {
			for _, bound := range []int{1, 20, maxStamp + 1} {
				l := drawn(stream(uint64(at)+1), maxDescs, bound)
				l[at] = bad
				refused(t, l, api.ErrBad)
				refused(t, l[:at+1], api.ErrBad)
				refused(t, l[at:], api.ErrBad)
			}
		}
	}
}

func TestMany(t *testing.T) {
	draw := stream(31)
	for _, n := range []int{maxDescs + 1, maxDescs + 2, 2 * maxDescs, 255, 256, 1 << 16, 1<<16 + 1} {
		refused(t, make([]api.Desc, n), api.ErrMany)
		refused(t, drawn(draw, n, maxStamp+1), api.ErrMany)
		refused(t, slices.Repeat(of(3, 5), n), api.ErrMany)
	}
}

// TestManyAheadOfBad has too many, of which one may not be, or none may.
func TestManyAheadOfBad(t *testing.T) {
	for _, bad := range unfit() {
		for _, at := range []int{0, 1, maxDescs - 1, maxDescs} {
			l := make([]api.Desc, maxDescs+1)
			l[at] = bad
			refused(t, l, api.ErrMany)
		}
		refused(t, slices.Repeat([]api.Desc{bad}, maxDescs+1), api.ErrMany)
	}
}

func TestFresher(t *testing.T) {
	for _, a := range fit() {
		for _, b := range fit() {
			want := a.Stamp > b.Stamp || a.Stamp == b.Stamp && a.Id < b.Id
			if got, e := desc.Fresher(a, b); e != api.OK || got != want {
				t.Errorf("Fresher of %v and %v: %v, error %d; asked for %v", a, b, got, int(e), want)
			}
		}
	}
}

func TestFresherByHand(t *testing.T) {
	for _, c := range []struct {
		l    []api.Desc
		want bool
	}{
		{of(0, 0, 0, 0), false},
		{of(7, maxStamp, 7, maxStamp), false},
		{of(0, 1, 0, 0), true},
		{of(0, 0, 0, 1), false},
		{of(0, 0, 7, 0), true},
		{of(7, 0, 0, 0), false},
		{of(7, 1, 0, 0), true},
		{of(0, 0, 7, 1), false},
		{of(3, 5, 4, 5), true},
		{of(4, 5, 3, 5), false},
		{of(7, maxStamp, 0, maxStamp-1), true},
		{of(0, maxStamp-1, 7, maxStamp), false},
		{of(7, maxStamp, 0, 0), true},
	} {
		if got, e := desc.Fresher(c.l[0], c.l[1]); e != api.OK || got != c.want {
			t.Errorf("Fresher of %v: %v, error %d", c.l, got, int(e))
		}
	}
}

// TestFresherOfBad has both ways round, with ones that would be fresher, and ones that would not.
func TestFresherOfBad(t *testing.T) {
	for _, bad := range unfit() {
		others := append(fit(), unfit()...)
		for _, other := range append(others, bad) {
			for _, l := range [][]api.Desc{{bad, other}, {other, bad}} {
				if got, e := desc.Fresher(l[0], l[1]); e != api.ErrBad || got {
					t.Errorf("Fresher of %v: %v, error %d", l, got, int(e))
				}
			}
		}
	}
}

func TestSame(t *testing.T) {
	all := append(lists(), unfit(), append(fit(), unfit()...), make([]api.Desc, 1<<16))
	for _, d := range unfit() {
		all = append(all, []api.Desc{d})
	}
	for i, a := range all {
		if !desc.Same(a, a) || !desc.Same(a, slices.Clone(a)) {
			t.Errorf("Same: list %d is not the same as itself", i)
		}
		for j, b := range all {
			if want := slices.Equal(a, b); desc.Same(a, b) != want {
				t.Errorf("Same of lists %d and %d: not %v", i, j, want)
			}
		}
	}
}

func TestSameByHand(t *testing.T) {
	for _, c := range []struct {
		a, b []api.Desc
		want bool
	}{
		{nil, []api.Desc{}, true},
		{nil, make([]api.Desc, 0, 5), true},
		{nil, of(0, 0), false},
		{of(0, 0), of(0, 0, 0, 0), false},
		{of(1, 5, 2, 3), of(1, 5), false},
		{of(1, 5, 2, 3), of(1, 5, 2, 3), true},
		{of(1, 5, 2, 3), of(2, 3, 1, 5), false},
		{of(1, 5, 2, 3), of(1, 5, 2, 4), false},
		{of(1, 5, 2, 3), of(1, 5, 3, 3), false},
		{of(1, 5), of(5, 1), false},
		{of(1, 5, 1, 5, 2, 3), of(1, 5, 2, 3, 2, 3), false},
		{of(-1, 5), of(-1, 5), true},
		{of(-1, 5), of(maxNodes, 5), false},
		{of(3, 1<<32), of(3, 0), false},
		{of(1<<32, 3), of(0, 3), false},
		{of(3, math.MinInt), of(3, math.MinInt), true},
		{of(3, math.MinInt), of(3, math.MaxInt), false},
	} {
		for _, pair := range [][2][]api.Desc{{c.a, c.b}, {c.b, c.a}} {
			if got := desc.Same(pair[0], pair[1]); got != c.want {
				t.Errorf("Same of %v: %v", pair, got)
			}
		}
	}
}

// TestSameOfOne has lists, also of more than may be, that differ at one place alone.
func TestSameOfOne(t *testing.T) {
	for _, n := range []int{1, 2, maxDescs, maxDescs + 1, 300} {
		l := drawn(stream(uint64(n)), n, 90)
		for at := range n {
			for _, other := range []api.Desc{{Id: l[at].Id + 1, Stamp: l[at].Stamp}, {Id: l[at].Id, Stamp: l[at].Stamp - 1}, {Id: l[at].Id - 1<<32, Stamp: l[at].Stamp}} {
				b := slices.Clone(l)
				b[at] = other
				if desc.Same(l, b) || desc.Same(b, l) {
					t.Errorf("Same of %d: true, though they differ at %d", n, at)
				}
			}
		}
		if desc.Same(l, l[:n-1]) || desc.Same(l[:n-1], l) {
			t.Errorf("Same of %d and %d: true", n, n-1)
		}
	}
}

// P7.2

func TestAnswers(t *testing.T) {
	for _, c := range calls() {
		for _, l := range lists() {
			answered(t, c, l, c.want(l))
		}
	}
}

func TestOrderByHand(t *testing.T) {
	for _, c := range [][2][]api.Desc{
		{nil, nil},
		{of(3, 5), of(3, 5)},
		{of(7, maxStamp), of(7, maxStamp)},
		{of(0, 0, 0, 1), of(0, 1, 0, 0)},
		{of(2, 5, 1, 5, 0, 5, 7, 5), of(0, 5, 1, 5, 2, 5, 7, 5)},
		{of(4, 2, 4, 2, 3, 2, 4, 2), of(3, 2, 4, 2, 4, 2, 4, 2)},
		{of(0, 0, 7, maxStamp, 0, maxStamp, 7, 0), of(0, maxStamp, 7, maxStamp, 0, 0, 7, 0)},
		{of(1, 1, 1, 3, 1, 2, 1, 3), of(1, 3, 1, 3, 1, 2, 1, 1)},
	} {
		answered(t, calls()[0], c[0], c[1])
	}
}

func TestBestByHand(t *testing.T) {
	for _, c := range [][2][]api.Desc{
		{nil, nil},
		{of(3, 5), of(3, 5)},
		{of(0, 0), of(0, 0)},
		{of(7, maxStamp), of(7, maxStamp)},
		{of(0, 0, 0, 1), of(0, 1)},
		{of(0, 1, 0, 0), of(0, 1)},
		{of(4, 2, 4, 2, 3, 2, 4, 2), of(3, 2, 4, 2)},
		{of(1, 1, 1, 3, 1, 2, 1, 3), of(1, 3)},
		{of(0, 0, 7, maxStamp, 0, maxStamp, 7, 0), of(0, maxStamp, 7, maxStamp)},
		{of(7, 0, 6, 0, 5, 0, 4, 0, 3, 0, 2, 0, 1, 0, 0, 0), of(0, 0, 1, 0, 2, 0, 3, 0, 4, 0, 5, 0, 6, 0, 7, 0)},
		{of(0, 1, 1, 2, 2, 3, 3, 4, 4, 5, 5, 6, 6, 7, 7, 8), of(7, 8, 6, 7, 5, 6, 4, 5, 3, 4, 2, 3, 1, 2, 0, 1)},
		{of(5, 9, 5, 8, 2, 8, 2, 9, 5, 0), of(2, 9, 5, 9)},
	} {
		answered(t, calls()[1], c[0], c[1])
	}
}

// TestAllPlaces has a few descriptors in each order in which they can stand.
func TestAllPlaces(t *testing.T) {
	for _, l := range [][]api.Desc{of(0, 5, 1, 5, 2, 5, 3, 5, 4, 5, 5, 5), of(0, 9, 1, 9, 0, 8, 1, 8, 7, 8, 7, 7), of(3, 1, 3, 1, 2, 1, 2, 1, 2, 0, 3, 0), of(0, 0, 0, 1, 0, 2, 0, 3, 0, 4, 0, 5)} {
		for _, c := range calls() {
			want := c.want(l)
			inEachOrder(slices.Clone(l), 0, func(p []api.Desc) { answered(t, c, p, want) })
		}
	}
}

func inEachOrder(l []api.Desc, from int, do func(l []api.Desc)) {
	if from == len(l) {
		do(l)
		return
	}
	for i := from; i < len(l); i++ {
		l[from], l[i] = l[i], l[from]
		inEachOrder(l, from+1, do)
		l[from], l[i] = l[i], l[from]
	}
}

// TestNodesThatAreThere has each set of nodes, of which some are told of several times.
func TestNodesThatAreThere(t *testing.T) {
	draw := stream(43)
	for set := range 1 << maxNodes {
		var l []api.Desc
		there := 0
		for id := range maxNodes {
			if set>>id&1 == 0 {
				continue
			}
			there++
			for range 1 + draw()%8 {
				l = append(l, api.Desc{Id: id, Stamp: int(draw() % 6)})
			}
		}
		l = shuffled(draw, l)
		got, e := desc.Best(l)
		if e != api.OK || len(got) != there || !slices.Equal(got, best(l)) {
			t.Errorf("Best of %v: %v, error %d", l, got, int(e))
		}
	}
}

// P7.3

func TestOnlyRead(t *testing.T) {
	for _, l := range append(lists(), unfit(), slices.Repeat(fit(), 2)) {
		in := marked(l)
		before := slices.Clone(memory(in))
		desc.Check(in)
		desc.Order(in)
		desc.Best(in)
		desc.Same(in, in)
		desc.Same(in, in[:len(in)/2])
		if !slices.Equal(memory(in), before) {
			t.Errorf("%v was turned", brief(l))
		}
	}
}

// TestMemory writes over what was answered, also behind its end, and over what was handed in: nothing else may change by it.
func TestMemory(t *testing.T) {
	for _, c := range calls() {
		for _, l := range lists() {
			in := marked(l)
			before := slices.Clone(memory(in))
			want := c.want(l)
			first, _ := c.do(in)
			second, _ := c.do(in)
			scribble(memory(first))
			if !slices.Equal(memory(in), before) || !slices.Equal(second, want) {
				t.Fatalf("%s of %v: the answer shares memory", c.name, l)
			}
			if third, e := c.do(in); e != api.OK || !slices.Equal(third, want) {
				t.Fatalf("%s of %v: it hangs on what became of another answer", c.name, l)
			}
			scribble(memory(in))
			if !slices.Equal(second, want) {
				t.Fatalf("%s of %v: the answer shares memory with what is handed in", c.name, l)
			}
		}
	}
}

// P7.4

func TestNothingButPlaces(t *testing.T) {
	for _, l := range lists() {
		got, e := desc.Order(l)
		if e != api.OK || !maps.Equal(counted(got), counted(l)) {
			t.Errorf("Order of %v: %v, error %d", l, got, int(e))
		}
	}
}

func TestEachFresherOrTheSame(t *testing.T) {
	for _, c := range calls() {
		for _, l := range lists() {
			got, _ := c.do(l)
			for i := 1; i < len(got); i++ {
				if fresher, e := desc.Fresher(got[i-1], got[i]); e != api.OK || !fresher && got[i-1] != got[i] {
					t.Errorf("%s of %v: %v", c.name, l, got)
				}
			}
		}
	}
}

func TestTwice(t *testing.T) {
	for _, l := range lists() {
		once, _ := desc.Order(l)
		answered(t, calls()[0], once, once)
		most, _ := desc.Best(l)
		answered(t, calls()[0], most, most)
		answered(t, calls()[1], most, most)
		answered(t, calls()[1], once, most)
		if 2*len(l) <= maxDescs {
			answered(t, calls()[1], slices.Concat(l, l), most)
			answered(t, calls()[1], slices.Concat(most, l), most)
		}
	}
}

func TestHowTheyStand(t *testing.T) {
	draw := stream(53)
	for _, c := range calls() {
		for _, l := range lists() {
			want, _ := c.do(l)
			for range 3 {
				answered(t, c, shuffled(draw, l), want)
			}
		}
	}
}

// TestNoneLeftOut has, for each descriptor, the one of its node that is kept: it is as fresh, or fresher.
func TestNoneLeftOut(t *testing.T) {
	for _, l := range lists() {
		got, _ := desc.Best(l)
		for _, d := range l {
			at := slices.IndexFunc(got, func(kept api.Desc) bool { return kept.Id == d.Id })
			if at < 0 || got[at].Stamp < d.Stamp {
				t.Fatalf("Best of %v: %v, without %v", l, got, d)
			}
		}
		for _, d := range got {
			if !slices.Contains(l, d) {
				t.Errorf("Best of %v: %v, with %v", l, got, d)
			}
		}
	}
}

// P1, P2

// TestAnything hands in what looks like descriptors, and is often none.
func TestAnything(t *testing.T) {
	draw := stream(61)
	from := append(fit(), unfit()...)
	good := len(fit())
	for range 20000 {
		l := make([]api.Desc, draw()%70)
		some := from
		if draw()%2 == 0 {
			some = from[:good]
		}
		for i := range l {
			l[i] = some[draw()%uint64(len(some))]
		}
		switch {
		case len(l) > maxDescs:
			refused(t, l, api.ErrMany)
		case slices.ContainsFunc(l, func(d api.Desc) bool { return !slices.Contains(from[:good], d) }):
			refused(t, l, api.ErrBad)
		default:
			for _, c := range calls() {
				answered(t, c, l, c.want(l))
			}
		}
		desc.Fresher(api.Desc{Id: int(draw()), Stamp: int(draw())}, api.Desc{Id: int(draw()) % 16, Stamp: int(draw())})
	}
}
