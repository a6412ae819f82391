package cache_test

import (
	"cmp"
	"math"
	"slices"
	"testing"

	"headcount/api"
	"headcount/cache"
)

const (
	maxNodes = 8
	maxDescs = 64
	maxCap   = 6
	maxStamp = 2147483647
)

// of is the descriptors of these Ids and Stamps, which go by turns.
func of(numbers ...int) []api.Desc {
	var out []api.Desc
	for pair := range slices.Chunk(numbers, 2) {
		out = append(out, api.Desc{Id: pair[0], Stamp: pair[1]})
	}
	return out
}

// made is a cache of these parts, whether it may be or not.
func made(own, most int, numbers ...int) api.Cache {
	return api.Cache{Own: own, Cap: most, List: of(numbers...)}
}

// stream is numbers that look as if drawn, the same ones each time.
func stream(x uint64) func(below int) int {
	return func(below int) int {
		x ^= x << 13
		x ^= x >> 7
		x ^= x << 17
		return int(x % uint64(below))
	}
}

// drawn is n descriptors that may be, with Stamps below bound.
func drawn(draw func(below int) int, n, bound int) []api.Desc {
	out := make([]api.Desc, n)
	for i := range out {
		out[i] = api.Desc{Id: draw(maxNodes), Stamp: draw(bound)}
	}
	return out
}

// kept is what a cache of that node keeps of l: the greatest Stamp of each other Id, in order by one number for each Stamp and Id, cut to most. It leans neither on desc nor on cache.
func kept(own, most int, l []api.Desc) []api.Desc {
	greatest := map[int]int{}
	for _, d := range l {
		if d.Id != own {
			greatest[d.Id] = max(greatest[d.Id], d.Stamp)
		}
	}
	var out []api.Desc
	for id, stamp := range greatest {
		out = append(out, api.Desc{Id: id, Stamp: stamp})
	}
	return ordered(out)[:min(most, len(out))]
}

// ordered is l in order; it does not lean on desc.Order.
func ordered(l []api.Desc) []api.Desc {
	place := func(d api.Desc) int { return d.Stamp*maxNodes + maxNodes - 1 - d.Id }
	l = slices.Clone(l)
	slices.SortFunc(l, func(a, b api.Desc) int { return cmp.Compare(place(b), place(a)) })
	return l
}

// descMayBe and mayBe ask for what the document names, one by one.
func descMayBe(d api.Desc) bool {
	return 0 <= d.Id && d.Id <= 7 && 0 <= d.Stamp && d.Stamp <= 2147483647
}

func mayBe(c api.Cache) bool {
	if c.Own < 0 || c.Own > 7 || c.Cap < 1 || c.Cap > 6 || len(c.List) > c.Cap {
		return false
	}
	for i, d := range c.List {
		if !descMayBe(d) || d.Id == c.Own {
			return false
		}
		for _, ahead := range c.List[:i] {
			if ahead.Id == d.Id || ahead.Stamp < d.Stamp || ahead.Stamp == d.Stamp && ahead.Id > d.Id {
				return false
			}
		}
	}
	return true
}

// equal does not lean on cache.Same.
func equal(a, b api.Cache) bool {
	return a.Own == b.Own && a.Cap == b.Cap && slices.Equal(a.List, b.List)
}

func cloned(c api.Cache) api.Cache {
	return api.Cache{Own: c.Own, Cap: c.Cap, List: slices.Clone(c.List)}
}

// fit is caches that may be: of each node and room, empty, full and between, with few Stamps, many, and the edges of them.
func fit() []api.Cache {
	draw := stream(7)
	var out []api.Cache
	for own := range maxNodes {
		for most := 1; most <= maxCap; most++ {
			out = append(out, made(own, most))
			for _, bound := range []int{1, 2, 9, maxStamp + 1} {
				out = append(out, api.Cache{Own: own, Cap: most, List: kept(own, most, drawn(draw, 1+draw(9), bound))})
			}
			edges := of(0, maxStamp, 1, maxStamp, 2, maxStamp-1, 3, 0, 4, 1, 5, 0, 6, maxStamp, 7, 1)
			out = append(out, api.Cache{Own: own, Cap: most, List: kept(own, most, edges)})
		}
	}
	return out
}

// unfit is caches that may not be, each by one thing alone, and one by all.
func unfit() []api.Cache {
	out := []api.Cache{
		{}, made(0, 0), made(-1, 3), made(maxNodes, 3), made(0, -1), made(0, maxCap+1), made(maxNodes, maxCap+1, -1, -1),
		made(1<<32, 3), made(0, 1<<32+3), made(math.MinInt, 3), made(math.MaxInt, 3), made(0, math.MinInt), made(0, math.MaxInt),
		made(maxNodes, 3, 1, 5), made(-1, 3, 1, 5), made(2, 0, 1, 5), made(2, maxCap+1, 1, 5),
		made(0, 1, 1, 5, 2, 3), made(0, 5, 1, 9, 2, 8, 3, 7, 4, 6, 5, 5, 6, 4), made(7, 6, 0, 9, 1, 8, 2, 7, 3, 6, 4, 5, 5, 4, 6, 3),
		made(0, 6, 1, 5, 2, 6), made(0, 6, 2, 5, 1, 5), made(0, 6, 1, 5, 1, 5), made(0, 6, 1, 5, 1, 4), made(0, 6, 1, 9, 2, 8, 1, 7), made(0, 6, 3, 9, 2, 9, 1, 9),
		{Own: 0, Cap: 6, List: make([]api.Desc, 1)}, {Own: 1, Cap: 6, List: make([]api.Desc, maxDescs+1)}, {Own: 0, Cap: 6, List: make([]api.Desc, 1<<16)},
	}
	for _, bad := range unfitDescs() {
		out = append(out, api.Cache{Own: 3, Cap: 2, List: []api.Desc{bad}}, api.Cache{Own: 3, Cap: 2, List: []api.Desc{{Id: 1, Stamp: maxStamp}, bad}}, api.Cache{Own: 3, Cap: 2, List: []api.Desc{bad, {Id: 1}}})
	}
	for own := range maxNodes {
		other := (own + 1) % maxNodes
		out = append(out, made(own, 3, own, 5), made(own, 3, own, 9, other, 5), made(own, 3, other, 9, own, 5), made(own, 3, own, maxStamp), made(own, 3, own, 0), made(own, 3, own, -1), made(own, 1, own, 9, other, 5))
	}
	return out
}

func unfitDescs() []api.Desc {
	return of(-1, 5, maxNodes, 5, 1, -1, 1, maxStamp+1, 1<<32+1, 5, 1, 1<<32, math.MinInt, 0, math.MaxInt, 0, 2, math.MinInt, 2, math.MaxInt, -1, -1)
}

// lists is lists that may be taken in: none, one, the greatest ones, and such as have few Stamps, or many.
func lists() [][]api.Desc {
	out := [][]api.Desc{nil, {}, make([]api.Desc, 1), make([]api.Desc, maxDescs-maxCap), of(7, maxStamp), of(0, maxStamp, 7, 0), of(5, 1, 5, 3, 5, 2, 5, 3)}
	draw := stream(11)
	for _, n := range []int{1, 2, 3, 7, 20, maxDescs - maxCap} {
		for _, bound := range []int{1, 3, 30, maxStamp + 1} {
			out = append(out, drawn(draw, n, bound))
		}
	}
	return out
}

// shuffled is l with its places drawn.
func shuffled(draw func(below int) int, l []api.Desc) []api.Desc {
	out := slices.Clone(l)
	for i := range out {
		j := i + draw(len(out)-i)
		out[i], out[j] = out[j], out[i]
	}
	return out
}

// merged is c with l taken in, where nothing stands against it.
func merged(t *testing.T, c api.Cache, l []api.Desc) api.Cache {
	t.Helper()
	got, e := cache.Merge(c, l)
	if e != api.OK {
		t.Fatalf("Merge of %v and %v: error %d", c, l, int(e))
	}
	return got
}

// refusedMerge fails unless l is refused by want, with nothing beside it.
func refusedMerge(t *testing.T, c api.Cache, l []api.Desc, want api.Errno) {
	t.Helper()
	if got, e := cache.Merge(c, l); e != want || !equal(got, api.Cache{}) {
		t.Errorf("Merge of %v and %d descriptors: %v, error %d; asked for error %d", brief(c), len(l), got, int(e), int(want))
	}
}

// refusedOffer fails unless now is refused by want, with nothing beside it.
func refusedOffer(t *testing.T, c api.Cache, now int, want api.Errno) {
	t.Helper()
	if got, e := cache.Offer(c, now); e != want || len(got) > 0 {
		t.Errorf("Offer of %v at %d: %v, error %d; asked for error %d", brief(c), now, got, int(e), int(want))
	}
}

// brief is c with the first ones of its List, which is enough to tell of it.
func brief(c api.Cache) api.Cache {
	c.List = c.List[:min(len(c.List), maxCap+1)]
	return c
}

// marked is l in memory of its own, with marks behind its end.
func marked(l []api.Desc) []api.Desc {
	return append(slices.Clone(l), of(-1, -1, 3, 3, 0, maxStamp, 77, 0)...)[:len(l)]
}

// memory is all the memory that l has, also behind its end.
func memory(l []api.Desc) []api.Desc { return l[:cap(l)] }

func scribble(l []api.Desc) {
	for i := range l {
		l[i] = api.Desc{Id: ^l[i].Id, Stamp: ^l[i].Stamp}
	}
}
