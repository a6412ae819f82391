package desc_test

import (
	"cmp"
	"math"
	"slices"
	"testing"

	"headcount/api"
	"headcount/desc"
)

const (
	maxNodes = 8
	maxDescs = 64
	maxStamp = 2147483647
)

// of is the descriptors of these Ids and Stamps, which go by turns.
func of(numbers ...int) []api.Desc {
	var out []api.Desc
	for pair := range slices.Chunk(numbers, 2) {
		out = append(out, api.Desc{Id: pair[0], Stamp: pair[1]})
	}
	return out
}

// stream is numbers that look as if drawn, the same ones each time.
func stream(x uint64) func() uint64 {
	return func() uint64 {
		x ^= x << 13
		x ^= x >> 7
		x ^= x << 17
		return x
	}
}

// fit is descriptors that may be: all Ids, with the edges of Stamps and what stands beside these.
func fit() []api.Desc {
	var out []api.Desc
	for id := range maxNodes {
		for _, stamp := range []int{0, 1, 2, 7, 1 << 30, maxStamp - 1, maxStamp} {
			out = append(out, api.Desc{Id: id, Stamp: stamp})
		}
	}
	return out
}

// unfit is descriptors that may not be, by the Id, by the Stamp, or by both; some of them would be some if cut to fewer bits.
func unfit() []api.Desc {
	var out []api.Desc
	ids := []int{-1, -2, -maxNodes, maxNodes, maxNodes + 1, 255, 256, 1 << 32, 1<<32 + 3, math.MaxInt, math.MinInt}
	stamps := []int{-1, -2, -maxStamp, -maxStamp - 1, maxStamp + 1, maxStamp + 2, 1<<32 - 1, 1 << 32, 1<<32 + 5, math.MaxInt, math.MinInt}
	for _, id := range ids {
		out = append(out, of(id, 0, id, 5, id, maxStamp)...)
		for _, stamp := range stamps {
			out = append(out, of(id, stamp)...)
		}
	}
	for _, stamp := range stamps {
		out = append(out, of(0, stamp, 3, stamp, maxNodes-1, stamp)...)
	}
	return out
}

// drawn is n descriptors that may be, with Stamps below bound.
func drawn(draw func() uint64, n, bound int) []api.Desc {
	out := make([]api.Desc, n)
	for i := range out {
		out[i] = api.Desc{Id: int(draw() % maxNodes), Stamp: int(draw() % uint64(bound))}
	}
	return out
}

// lists is lists that may be: none, one, the greatest ones, and such as have few Stamps, or many.
func lists() [][]api.Desc {
	out := [][]api.Desc{nil, {}, make([]api.Desc, 0, 9), make([]api.Desc, 1), make([]api.Desc, maxDescs), fit()}
	for _, d := range fit() {
		out = append(out, []api.Desc{d}, slices.Repeat([]api.Desc{d}, 2), slices.Repeat([]api.Desc{d}, maxDescs))
	}
	for id := range maxNodes {
		alone := drawn(stream(uint64(id)+3), maxDescs, 40)
		for i := range alone {
			alone[i].Id = id
		}
		out = append(out, alone)
	}
	draw := stream(17)
	for n := range maxDescs + 1 {
		for _, bound := range []int{1, 2, 5, 50, maxStamp + 1} {
			l := drawn(draw, n, bound)
			out = append(out, l, ordered(l))
		}
	}
	for _, l := range slices.Clone(out) {
		l = slices.Clone(l)
		slices.Reverse(l)
		out = append(out, l)
	}
	return out
}

// ordered is l in order, by one number for each Stamp and Id; it does not lean on desc.Order.
func ordered(l []api.Desc) []api.Desc {
	place := func(d api.Desc) int { return d.Stamp*maxNodes + maxNodes - 1 - d.Id }
	l = slices.Clone(l)
	slices.SortFunc(l, func(a, b api.Desc) int { return cmp.Compare(place(b), place(a)) })
	return l
}

// best is the greatest Stamp of each Id that there is, in order; it does not lean on desc.Best.
func best(l []api.Desc) []api.Desc {
	greatest := map[int]int{}
	for _, d := range l {
		greatest[d.Id] = max(greatest[d.Id], d.Stamp)
	}
	var out []api.Desc
	for id, stamp := range greatest {
		out = append(out, api.Desc{Id: id, Stamp: stamp})
	}
	return ordered(out)
}

// counted is how often each descriptor stands in l.
func counted(l []api.Desc) map[api.Desc]int {
	out := map[api.Desc]int{}
	for _, d := range l {
		out[d]++
	}
	return out
}

// shuffled is l with its places drawn.
func shuffled(draw func() uint64, l []api.Desc) []api.Desc {
	out := slices.Clone(l)
	for i := range out {
		j := i + int(draw()%uint64(len(out)-i))
		out[i], out[j] = out[j], out[i]
	}
	return out
}

// call is one of the calls that answer descriptors.
type call struct {
	name string
	do   func(l []api.Desc) ([]api.Desc, api.Errno)
	want func(l []api.Desc) []api.Desc
}

func calls() []call {
	return []call{{"Order", desc.Order, ordered}, {"Best", desc.Best, best}}
}

// answered fails unless l is answered by want.
func answered(t *testing.T, c call, l, want []api.Desc) {
	t.Helper()
	if got, e := c.do(l); e != api.OK || !slices.Equal(got, want) {
		t.Errorf("%s of %v: %v, error %d; asked for %v", c.name, l, got, int(e), want)
	}
}

// refused fails unless Check and all that ask for it refuse l by want, with nothing beside it.
func refused(t *testing.T, l []api.Desc, want api.Errno) {
	t.Helper()
	if e := desc.Check(l); e != want {
		t.Errorf("Check of %d, %v: error %d; asked for %d", len(l), brief(l), int(e), int(want))
	}
	for _, c := range calls() {
		if got, e := c.do(l); e != want || len(got) > 0 {
			t.Errorf("%s of %d, %v: %v, error %d; asked for error %d", c.name, len(l), brief(l), got, int(e), int(want))
		}
	}
}

// brief is l's first ones, which is enough to tell of it.
func brief(l []api.Desc) []api.Desc { return l[:min(len(l), 4)] }

// marked is l in memory of its own, with marks behind its end.
func marked(l []api.Desc) []api.Desc {
	return append(slices.Clone(l), of(-1, -1, 3, 3, 0, maxStamp, 77, 0)...)[:len(l)]
}

// memory is all the memory that l has, also behind its end.
func memory(l []api.Desc) []api.Desc { return l[:cap(l)] }

func scribble(l []api.Desc) {
	for i := range l {
		l[i] = api.Desc{Id: ^l[i].Id, Stamp: ^l[i].Stamp}
	}
}
