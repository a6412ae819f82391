package choose_test

import (
	"math"
	"slices"
	"testing"

	"headcount/api"
	"headcount/choose"
)

const (
	maxNodes = 8
	maxCap   = 6
	maxDraws = 64
	maxStamp = 2147483647
)

// of is the descriptors of these Ids and Stamps, which go by turns.
func of(numbers ...int) []api.Desc {
	var out []api.Desc
	for pair := range slices.Chunk(numbers, 2) {
		out = append(out, api.Desc{Id: pair[0], Stamp: pair[1]})
	}
	return out
}

// made is a cache of these parts, whether it may be or not.
func made(own, most int, numbers ...int) api.Cache {
	return api.Cache{Own: own, Cap: most, List: of(numbers...)}
}

// stream is numbers that look as if drawn, the same ones each time.
func stream(x uint64) func() uint64 {
	return func() uint64 {
		x ^= x << 13
		x ^= x >> 7
		x ^= x << 17
		return x
	}
}

// fit is caches that may be, of each number of neighbours that there can be, also with room that is left, and with the edges of Ids and Stamps.
func fit() []api.Cache {
	return []api.Cache{
		made(0, 1), made(7, 6),
		made(0, 1, 7, 0), made(7, 1, 0, maxStamp), made(3, 6, 1, 5),
		made(5, 2, 7, 3, 6, 2), made(0, 2, 1, 4, 2, 4), made(1, 4, 0, maxStamp, 7, 0),
		made(0, 3, 2, 9, 1, 8, 3, 7), made(2, 5, 0, 0, 1, 0, 3, 0),
		made(6, 4, 7, 5, 0, 4, 5, 4, 1, 3), made(4, 6, 0, 1, 1, 1, 2, 1, 7, 0),
		made(0, 5, 5, 9, 4, 8, 3, 7, 2, 6, 1, 5), made(3, 6, 0, maxStamp, 1, maxStamp, 2, maxStamp, 4, maxStamp-1, 5, 0),
		made(7, 6, 0, 9, 1, 8, 2, 7, 3, 6, 4, 5, 5, 4), made(0, 6, 7, 9, 5, 8, 6, 8, 4, 3, 3, 1, 1, 0), made(4, 6, 0, 2, 1, 2, 2, 2, 3, 2, 5, 2, 6, 2),
	}
}

// unfit is caches that may not be, some with neighbours and some without.
func unfit() []api.Cache {
	return []api.Cache{
		{}, made(0, 0), made(-1, 3), made(maxNodes, 3), made(0, -1), made(0, maxCap+1), made(1<<32, 3), made(0, 1<<32+3),
		made(math.MinInt, 3), made(0, math.MaxInt), made(maxNodes, 3, 1, 5), made(2, maxCap+1, 1, 5),
		made(0, 1, 1, 5, 2, 3), made(7, 6, 0, 9, 1, 8, 2, 7, 3, 6, 4, 5, 5, 4, 6, 3),
		made(0, 6, 1, 5, 2, 6), made(0, 6, 2, 5, 1, 5), made(0, 6, 1, 5, 1, 5), made(0, 6, 1, 9, 2, 8, 1, 7),
		made(3, 2, 3, 5), made(3, 2, 1, 9, 3, 5), made(3, 2, -1, 5), made(3, 2, maxNodes, 5), made(3, 2, 1, -1), made(3, 2, 1, maxStamp+1),
		{Own: 1, Cap: 6, List: make([]api.Desc, 1<<16)},
	}
}

// edges is draws about what a number of 64 bits, or of fewer, can be.
func edges() []uint64 {
	var out []uint64
	for _, bits := range []int{0, 7, 8, 31, 32, 53, 62, 63} {
		for off := uint64(0); off < 8; off++ {
			out = append(out, 1<<bits+off, 1<<bits-off, math.MaxUint64-off, off)
		}
	}
	return out
}

// drawLists is lists of draws: none, one, as many as may be, and such as lie about edges.
func drawLists() [][]uint64 {
	out := [][]uint64{nil, {}, make([]uint64, 1), make([]uint64, maxDraws), slices.Repeat([]uint64{math.MaxUint64}, maxDraws), {4, 1, 9}}
	draw := stream(29)
	for n := range 9 {
		for range 4 {
			small, great := make([]uint64, n), make([]uint64, n)
			for i := range n {
				small[i], great[i] = draw()%9, draw()
			}
			out = append(out, small, great)
		}
	}
	for draws := range slices.Chunk(edges(), 7) {
		out = append(out, draws)
	}
	return append(out, edges()[:maxDraws-1], edges()[:maxDraws])
}

// remainder is what is left of x divided by n, told binary digit by binary digit.
func remainder(x uint64, n int) int {
	left := 0
	for bit := 63; bit >= 0; bit-- {
		left = 2*left + int(x>>bit&1)
		if left >= n {
			left -= n
		}
	}
	return left
}

// chosen is what the draws choose of l, told by marks on those that were chosen already. It does not lean on choose.
func chosen(l []api.Desc, draws []uint64) []api.Desc {
	var out []api.Desc
	gone := make([]bool, len(l))
	for _, draw := range draws {
		if len(out) == len(l) {
			break
		}
		skip := remainder(draw, len(l)-len(out))
		for i, d := range l {
			if gone[i] {
				continue
			}
			if skip == 0 {
				gone[i] = true
				out = append(out, d)
				break
			}
			skip--
		}
	}
	return out
}

// orders is all lists of neighbours of l, each once at most, in all their orders.
func orders(l []api.Desc) [][]api.Desc {
	out := [][]api.Desc{nil}
	for from := 0; from < len(out); from++ {
		for _, d := range l {
			if !slices.Contains(out[from], d) {
				out = append(out, append(slices.Clone(out[from]), d))
			}
		}
	}
	return out
}

// counted is a draw for each of l: how many neighbours stand ahead of it in the cache that none ahead in l is. It does not lean on choose.
func counted(list, l []api.Desc) []uint64 {
	var out []uint64
	for i, d := range l {
		ahead := list[:slices.Index(list, d)]
		n := uint64(len(ahead))
		for _, other := range l[:i] {
			if slices.Contains(ahead, other) {
				n--
			}
		}
		out = append(out, n)
	}
	return out
}

// some and draws are the answers where nothing stands against them.
func some(t *testing.T, c api.Cache, draws []uint64) []api.Desc {
	t.Helper()
	got, e := choose.Some(c, draws)
	if e != api.OK {
		t.Fatalf("Some of %v by %v: error %d", c, draws, int(e))
	}
	return got
}

func draws(t *testing.T, c api.Cache, l []api.Desc) []uint64 {
	t.Helper()
	got, e := choose.Draws(c, l)
	if e != api.OK {
		t.Fatalf("Draws of %v and %v: error %d", c, l, int(e))
	}
	return got
}

// refusedOne, refusedSome and refusedDraws fail unless the call is refused by want, with nothing beside it.
func refusedOne(t *testing.T, c api.Cache, draw uint64, want api.Errno) {
	t.Helper()
	if got, e := choose.One(c, draw); e != want || got != (api.Desc{}) {
		t.Errorf("One of %v by %d: %v, error %d; asked for error %d", brief(c), draw, got, int(e), int(want))
	}
}

func refusedSome(t *testing.T, c api.Cache, draws []uint64, want api.Errno) {
	t.Helper()
	if got, e := choose.Some(c, draws); e != want || len(got) > 0 {
		t.Errorf("Some of %v by %d draws: %v, error %d; asked for error %d", brief(c), len(draws), got, int(e), int(want))
	}
}

func refusedDraws(t *testing.T, c api.Cache, l []api.Desc, want api.Errno) {
	t.Helper()
	if got, e := choose.Draws(c, l); e != want || len(got) > 0 {
		t.Errorf("Draws of %v and %d descriptors: %v, error %d; asked for error %d", brief(c), len(l), got, int(e), int(want))
	}
}

// brief is c with the first ones of its List, which is enough to tell of it.
func brief(c api.Cache) api.Cache {
	c.List = c.List[:min(len(c.List), maxCap+1)]
	return c
}

// marked is l in memory of its own, with the marks behind its end.
func marked[E any](l []E, marks ...E) []E {
	return append(slices.Clone(l), marks...)[:len(l)]
}

// markedCache is c with marks behind its List's end.
func markedCache(c api.Cache) api.Cache {
	c.List = marked(c.List, of(-1, -1, 3, 3, 0, maxStamp, 77, 0)...)
	return c
}

// memory is all the memory that l has, also behind its end.
func memory[E any](l []E) []E { return l[:cap(l)] }

func scribble(l []api.Desc) {
	for i := range l {
		l[i] = api.Desc{Id: ^l[i].Id, Stamp: ^l[i].Stamp}
	}
}

func scribbleDraws(l []uint64) {
	for i := range l {
		l[i] = ^l[i]
	}
}
