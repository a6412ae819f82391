package cache_test

import (
	"math"
	"slices"
	"testing"

	"headcount/api"
	"headcount/cache"
)

func TestExamples(t *testing.T) {
	c, e := cache.New(0, 2)
	if e != api.OK {
		t.Fatal(int(e))
	}
	c = merged(t, c, of(1, 5, 2, 3, 0, 9, 3, 4))
	if !equal(c, made(0, 2, 1, 5, 3, 4)) {
		t.Error(c)
	}
	c = merged(t, c, of(2, 9))
	if !equal(c, made(0, 2, 2, 9, 1, 5)) {
		t.Error(c)
	}
	if l, e := cache.Offer(c, 7); e != api.OK || !slices.Equal(l, of(2, 9, 0, 7, 1, 5)) {
		t.Error(l, int(e))
	}
}

// P8.1

func TestNew(t *testing.T) {
	for _, own := range []int{math.MinInt, -maxNodes, -2, -1, 0, 1, 3, 6, 7, 8, 9, 255, 256, 1 << 32, math.MaxInt} {
		for _, most := range []int{math.MinInt, -6, -1, 0, 1, 2, 5, 6, 7, 8, 257, 1<<32 + 1, math.MaxInt} {
			want, refused := api.Cache{Own: own, Cap: most}, api.OK
			if own < 0 || own > 7 || most < 1 || most > 6 {
				want, refused = api.Cache{}, api.ErrArg
			}
			if got, e := cache.New(own, most); e != refused || !equal(got, want) {
				t.Errorf("New of %d and %d: %v, error %d", own, most, got, int(e))
			}
		}
	}
}

func TestCheck(t *testing.T) {
	for _, c := range fit() {
		if e := cache.Check(c); e != api.OK {
			t.Errorf("Check of %v: error %d", c, int(e))
		}
	}
	for _, c := range unfit() {
		if e := cache.Check(c); e != api.ErrBad {
			t.Errorf("Check of %v: error %d", brief(c), int(e))
		}
	}
}

// TestCheckOfAll has all Lists of at most three of some descriptors, of which a few may not be.
func TestCheckOfAll(t *testing.T) {
	some := of(0, 0, 0, 1, 1, 0, 1, 1, 1, maxStamp, 2, 0, 2, 1, 2, maxStamp, 7, 0, 7, 1, 8, 1, 2, -1)
	all := [][]api.Desc{nil}
	for from := 0; len(all[from]) < 3; from++ {
		for _, d := range some {
			all = append(all, append(slices.Clone(all[from]), d))
		}
	}
	for _, own := range []int{0, 2, 5, 8} {
		for _, most := range []int{0, 1, 2, 3, 6} {
			for _, l := range all {
				c, want := api.Cache{Own: own, Cap: most, List: l}, api.ErrBad
				if mayBe(c) {
					want = api.OK
				}
				if e := cache.Check(c); e != want {
					t.Errorf("Check of %v: error %d", c, int(e))
				}
			}
		}
	}
}

func TestSame(t *testing.T) {
	all := append(fit()[:60], unfit()...)
	for i, a := range all {
		if !cache.Same(a, a) || !cache.Same(a, cloned(a)) {
			t.Errorf("Same: %v is not the same as itself", brief(a))
		}
		for j, b := range all {
			if want := equal(a, b); cache.Same(a, b) != want {
				t.Errorf("Same of %d and %d: not %v", i, j, want)
			}
		}
	}
}

func TestSameByHand(t *testing.T) {
	a := made(1, 3, 4, 9, 2, 8)
	for _, b := range []api.Cache{
		made(0, 3, 4, 9, 2, 8), made(1, 2, 4, 9, 2, 8), made(3, 1, 4, 9, 2, 8), made(1, 3, 4, 9), made(1, 3), made(1, 3, 2, 8, 4, 9),
		made(1, 3, 4, 9, 2, 7), made(1, 3, 4, 9, 3, 8), made(1, 3, 4, 9, 2, 8, 2, 8), made(1, 3, 9, 4, 8, 2), made(1+1<<32, 3, 4, 9, 2, 8), made(1, 3+1<<32, 4, 9, 2, 8), {},
	} {
		if cache.Same(a, b) || cache.Same(b, a) {
			t.Errorf("Same of %v and %v", a, b)
		}
	}
	if !cache.Same(made(1, 3), api.Cache{Own: 1, Cap: 3, List: []api.Desc{}}) {
		t.Error("Same: a List without elements, and none")
	}
}

func TestTwin(t *testing.T) {
	for _, c := range append(fit(), unfit()...) {
		in := cloned(c)
		in.List = marked(c.List)
		before := slices.Clone(memory(in.List))
		got := cache.Twin(in)
		if !equal(got, c) {
			t.Fatalf("Twin of %v: %v", brief(c), brief(got))
		}
		scribble(memory(got.List))
		if !equal(in, c) || !slices.Equal(memory(in.List), before) {
			t.Fatalf("Twin of %v: it shares memory", brief(c))
		}
	}
}

// P8.2

func TestMerge(t *testing.T) {
	for _, c := range fit() {
		for _, l := range lists() {
			want := api.Cache{Own: c.Own, Cap: c.Cap, List: kept(c.Own, c.Cap, slices.Concat(c.List, l))}
			if got := merged(t, c, l); !equal(got, want) {
				t.Errorf("Merge of %v and %v: %v", c, l, got)
			}
		}
	}
}

func TestMergeByHand(t *testing.T) {
	for _, c := range []struct {
		c    api.Cache
		l    []api.Desc
		want api.Cache
	}{
		{made(0, 1), nil, made(0, 1)},
		{made(3, 2, 1, 5), nil, made(3, 2, 1, 5)},
		{made(0, 1), of(0, 5), made(0, 1)},
		{made(0, 1), of(0, maxStamp, 7, 0), made(0, 1, 7, 0)},
		{made(0, 1, 2, 5), of(1, 5), made(0, 1, 1, 5)},
		{made(0, 1, 1, 5), of(2, 5), made(0, 1, 1, 5)},
		{made(0, 1, 1, 5), of(2, 6), made(0, 1, 2, 6)},
		{made(0, 1, 1, 5), of(1, 4), made(0, 1, 1, 5)},
		{made(0, 1, 1, 5), of(1, 6), made(0, 1, 1, 6)},
		{made(5, 2, 1, 5, 2, 4), of(2, 9), made(5, 2, 2, 9, 1, 5)},
		{made(5, 2, 1, 9, 2, 8), of(1, 1, 2, 1, 3, 7), made(5, 2, 1, 9, 2, 8)},
		{made(5, 3, 1, 9, 2, 8), of(1, 1, 2, 1, 3, 7), made(5, 3, 1, 9, 2, 8, 3, 7)},
		{made(7, 6), of(6, 1, 5, 1, 4, 1, 3, 1, 2, 1, 1, 1, 0, 1), made(7, 6, 0, 1, 1, 1, 2, 1, 3, 1, 4, 1, 5, 1)},
		{made(7, 6), of(0, 0, 1, 1, 2, 2, 3, 3, 4, 4, 5, 5, 6, 6, 7, 7), made(7, 6, 6, 6, 5, 5, 4, 4, 3, 3, 2, 2, 1, 1)},
	} {
		if got := merged(t, c.c, c.l); !equal(got, c.want) {
			t.Errorf("Merge of %v and %v: %v; asked for %v", c.c, c.l, got, c.want)
		}
	}
}

// TestMergeBad has caches that may not be, also with lists that may not be, or are too many.
func TestMergeBad(t *testing.T) {
	for _, c := range unfit() {
		for _, l := range [][]api.Desc{nil, of(1, 5), of(-1, 5), make([]api.Desc, maxDescs), make([]api.Desc, maxDescs+1)} {
			refusedMerge(t, c, l, api.ErrBad)
		}
	}
}

func TestMergeOfBadLists(t *testing.T) {
	draw := stream(13)
	for _, c := range []api.Cache{made(0, 1), made(3, 2, 1, 5), made(7, 6, 0, 9, 1, 8, 2, 7, 3, 6, 4, 5, 5, 4)} {
		for _, bad := range unfitDescs() {
			for _, n := range []int{1, 2, 58, maxDescs} {
				for _, at := range []int{0, draw(n), n - 1} {
					l := drawn(draw, n, 50)
					l[at] = bad
					refusedMerge(t, c, l, api.ErrBad)
				}
			}
			refusedMerge(t, c, slices.Repeat([]api.Desc{bad}, maxDescs+1), api.ErrMany)
		}
		refusedMerge(t, c, make([]api.Desc, maxDescs+1), api.ErrMany)
		refusedMerge(t, c, make([]api.Desc, 1<<16), api.ErrMany)
	}
}

// TestMergeTogether has just as many as may be together, and one more; those of its own, or the same ones again, count too.
func TestMergeTogether(t *testing.T) {
	for _, c := range fit() {
		for _, d := range slices.Concat(c.List, []api.Desc{{Id: c.Own, Stamp: 5}, {Id: 7 - c.Own}}) {
			for n := maxDescs - maxCap; n <= maxDescs; n++ {
				l := slices.Repeat([]api.Desc{d}, n)
				if n+len(c.List) > maxDescs {
					refusedMerge(t, c, l, api.ErrMany)
				} else if got := merged(t, c, l); !slices.Equal(got.List, kept(c.Own, c.Cap, append(l, c.List...))) {
					t.Errorf("Merge of %v and %d times %v: %v", c, n, d, got)
				}
			}
		}
	}
}

func TestOffer(t *testing.T) {
	for _, c := range fit() {
		stamps := []int{0, 1, 2, 9, 1 << 30, maxStamp - 1, maxStamp}
		for _, d := range c.List {
			stamps = append(stamps, d.Stamp)
		}
		for _, now := range stamps {
			want := ordered(append([]api.Desc{{Id: c.Own, Stamp: now}}, c.List...))
			if got, e := cache.Offer(c, now); e != api.OK || !slices.Equal(got, want) {
				t.Errorf("Offer of %v at %d: %v, error %d", c, now, got, int(e))
			}
		}
	}
}

func TestOfferByHand(t *testing.T) {
	for _, c := range []struct {
		c    api.Cache
		now  int
		want []api.Desc
	}{
		{made(0, 1), 0, of(0, 0)},
		{made(7, 6), maxStamp, of(7, maxStamp)},
		{made(3, 2, 2, 5, 4, 5), 5, of(2, 5, 3, 5, 4, 5)},
		{made(3, 2, 2, 5, 4, 5), 6, of(3, 6, 2, 5, 4, 5)},
		{made(3, 2, 2, 5, 4, 5), 4, of(2, 5, 4, 5, 3, 4)},
		{made(7, 6, 0, 9, 1, 8, 2, 7, 3, 6, 4, 5, 5, 4), 0, of(0, 9, 1, 8, 2, 7, 3, 6, 4, 5, 5, 4, 7, 0)},
	} {
		if got, e := cache.Offer(c.c, c.now); e != api.OK || !slices.Equal(got, c.want) {
			t.Errorf("Offer of %v at %d: %v, error %d", c.c, c.now, got, int(e))
		}
	}
}

// TestOfferRefused has times that are none, and ahead of them caches that may not be.
func TestOfferRefused(t *testing.T) {
	none := []int{-1, -2, -maxStamp, -maxStamp - 1, maxStamp + 1, maxStamp + 2, 1 << 32, 1<<32 + 5, math.MinInt, math.MaxInt}
	for _, now := range none {
		for _, c := range fit() {
			refusedOffer(t, c, now, api.ErrArg)
		}
	}
	for _, c := range unfit() {
		for _, now := range append(none, 0, 5, maxStamp) {
			refusedOffer(t, c, now, api.ErrBad)
		}
	}
}

// P8.3

func TestOnlyRead(t *testing.T) {
	for _, c := range append(fit(), unfit()...) {
		for _, l := range append(lists(), unfitDescs()) {
			in := api.Cache{Own: c.Own, Cap: c.Cap, List: marked(c.List)}
			taken := marked(l)
			before, beforeTaken := slices.Clone(memory(in.List)), slices.Clone(memory(taken))
			cache.Check(in)
			cache.Merge(in, taken)
			cache.Offer(in, 5)
			cache.Same(in, cache.Twin(in))
			if !slices.Equal(memory(in.List), before) || !slices.Equal(memory(taken), beforeTaken) {
				t.Fatalf("%v or %v was turned", brief(c), l)
			}
		}
	}
}

// TestMemory writes over what was answered, also behind its end, and over what was handed in: nothing else may change by it.
func TestMemory(t *testing.T) {
	for _, c := range fit() {
		for _, l := range lists() {
			for name, do := range map[string]func(c api.Cache, l []api.Desc) []api.Desc{
				"Merge": func(c api.Cache, l []api.Desc) []api.Desc { return merged(t, c, l).List },
				"Offer": func(c api.Cache, l []api.Desc) []api.Desc { out, _ := cache.Offer(c, len(l)); return out },
			} {
				in, taken := api.Cache{Own: c.Own, Cap: c.Cap, List: marked(c.List)}, marked(l)
				before, beforeTaken := slices.Clone(memory(in.List)), slices.Clone(memory(taken))
				first, second := do(in, taken), do(in, taken)
				want := slices.Clone(first)
				scribble(memory(first))
				if !slices.Equal(memory(in.List), before) || !slices.Equal(memory(taken), beforeTaken) || !slices.Equal(second, want) {
					t.Fatalf("%s of %v and %v: the answer shares memory", name, c, l)
				}
				if !slices.Equal(do(in, taken), want) {
					t.Fatalf("%s of %v and %v: it hangs on what became of another answer", name, c, l)
				}
				scribble(memory(in.List))
				scribble(memory(taken))
				if !slices.Equal(second, want) {
					t.Fatalf("%s of %v and %v: the answer shares memory with what is handed in", name, c, l)
				}
			}
		}
	}
}

// P8.4

func TestTwice(t *testing.T) {
	for _, c := range fit() {
		for _, l := range lists() {
			once := merged(t, c, l)
			if twice := merged(t, once, l); !equal(twice, once) {
				t.Errorf("Merge of %v and %v: %v, then %v", c, l, once, twice)
			}
			if same := merged(t, once, once.List); !equal(same, once) {
				t.Errorf("Merge of %v and its own List: %v", once, same)
			}
		}
	}
}

// TestOneByOne cuts what is taken in at once into lists, down to one descriptor each, which also stand otherwise.
func TestOneByOne(t *testing.T) {
	draw := stream(19)
	for _, c := range fit() {
		for _, l := range lists() {
			want := merged(t, c, l)
			for range 2 {
				got, rest := c, shuffled(draw, l)
				for len(rest) > 0 {
					n := 1 + draw(len(rest))
					got, rest = merged(t, got, rest[:n]), rest[n:]
				}
				if !equal(got, want) {
					t.Errorf("Merge of %v and %v, one by one: %v; at once %v", c, l, got, want)
				}
			}
			got := c
			for _, d := range shuffled(draw, l) {
				got = merged(t, got, []api.Desc{d})
			}
			if !equal(got, want) {
				t.Errorf("Merge of %v and each one of %v: %v; at once %v", c, l, got, want)
			}
		}
	}
}

func TestHowTheyStand(t *testing.T) {
	draw := stream(23)
	for _, c := range fit() {
		for _, l := range lists() {
			want := merged(t, c, l)
			if got := merged(t, c, shuffled(draw, l)); !equal(got, want) {
				t.Errorf("Merge of %v and %v: it hangs on how they stand", c, l)
			}
			other := merged(t, api.Cache{Own: c.Own, Cap: c.Cap}, l)
			if got := merged(t, other, c.List); !equal(got, want) {
				t.Errorf("Merge of %v, then of the List of %v: %v; asked for %v", l, c, got, want)
			}
		}
	}
}

// TestNoneLeftOut has nodes that are left out: each one's freshest descriptor is less fresh than all that are kept, and the room is full.
func TestNoneLeftOut(t *testing.T) {
	for _, c := range fit() {
		for _, l := range lists() {
			got := merged(t, c, l)
			for _, d := range slices.Concat(c.List, l) {
				if d.Id == c.Own || slices.ContainsFunc(got.List, func(k api.Desc) bool { return k.Id == d.Id && k.Stamp >= d.Stamp }) {
					continue
				}
				if len(got.List) < c.Cap || slices.ContainsFunc(got.List, func(k api.Desc) bool {
					return k.Id == d.Id || d.Stamp > k.Stamp || d.Stamp == k.Stamp && d.Id < k.Id
				}) {
					t.Errorf("Merge of %v and %v: %v, without %v", c, l, got, d)
				}
			}
		}
	}
}

// TestWhatMayBe has the answers: they may be, and can be handed on.
func TestWhatMayBe(t *testing.T) {
	for _, c := range fit() {
		for _, l := range lists() {
			if got := merged(t, c, l); !mayBe(got) || cache.Check(got) != api.OK || got.Own != c.Own || got.Cap != c.Cap {
				t.Errorf("Merge of %v and %v: %v", c, l, got)
			}
		}
	}
}

// P1, P2

// TestAnything hands in what looks like caches and descriptors, and is often none.
func TestAnything(t *testing.T) {
	draw := stream(61)
	bad := unfitDescs()
	for range 20000 {
		c := api.Cache{Own: draw(10) - 1, Cap: draw(9) - 1, List: drawn(draw, draw(5), 4)}
		if draw(3) > 0 {
			c.List = kept(c.Own, max(c.Cap, 0), drawn(draw, draw(12), 9))
		}
		l := drawn(draw, draw(68), 9)
		wrong := draw(4) == 0 && len(l) > 0
		if wrong {
			l[draw(len(l))] = bad[draw(len(bad))]
		}
		switch {
		case !mayBe(c):
			refusedMerge(t, c, l, api.ErrBad)
			refusedOffer(t, c, draw(9)-2, api.ErrBad)
		case len(l) > maxDescs:
			refusedMerge(t, c, l, api.ErrMany)
		case wrong:
			refusedMerge(t, c, l, api.ErrBad)
		case len(l)+len(c.List) > maxDescs:
			refusedMerge(t, c, l, api.ErrMany)
		default:
			if got := merged(t, c, l); !slices.Equal(got.List, kept(c.Own, c.Cap, slices.Concat(c.List, l))) {
				t.Errorf("Merge of %v and %v: %v", c, l, got)
			}
		}
	}
}
