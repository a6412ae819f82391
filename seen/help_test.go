package seen_test

import (
	"fmt"
	"math"
	"slices"
	"testing"

	"headcount/api"
	"headcount/seen"
)

const (
	maxHeard  = 4096
	maxNumber = 1048575
)

// stream is numbers that look as if drawn, the same ones each time.
func stream(x uint64) func(below int) int {
	return func(below int) int {
		x ^= x << 13
		x ^= x >> 7
		x ^= x << 17
		return int(x % uint64(below))
	}
}

// row is count numbers from a number on, each greater by step than the one ahead.
func row(from, step, count int) []int {
	out := make([]int, count)
	for i := range out {
		out[i] = from + i*step
	}
	return out
}

// drawn is count numbers below bound, each once, that rise: those of all that were drawn, told by marks.
func drawn(draw func(below int) int, count, bound int) []int {
	marks := make([]bool, bound)
	for left := count; left > 0; {
		if n := draw(bound); !marks[n] {
			marks[n] = true
			left--
		}
	}
	return marked(marks)
}

// marked is the numbers of the places that have a mark.
func marked(marks []bool) []int {
	var out []int
	for n, is := range marks {
		if is {
			out = append(out, n)
		}
	}
	return out
}

// marks has a mark at each number of l, and is as long as there are numbers.
func marks(l []int) []bool {
	out := make([]bool, maxNumber+1)
	for _, n := range l {
		out[n] = true
	}
	return out
}

// fit is numbers that may be: none, few, as many as there may be, with gaps and without, at both edges.
func fit() [][]int {
	out := [][]int{
		nil, {}, {0}, {1}, {2}, {maxNumber}, {maxNumber - 1}, {0, 1}, {1, 2}, {0, 2}, {0, maxNumber}, {maxNumber - 1, maxNumber},
		{1, 4, 6}, {0, 1, 3}, {1, 4}, {0, 1, 2, 5, 9, maxNumber}, {255, 256, 65535, 65536},
		row(0, 1, maxHeard), row(1, 1, maxHeard), row(0, 2, maxHeard), row(255, 256, maxHeard), row(maxNumber-maxHeard+1, 1, maxHeard),
		append(row(0, 1, maxHeard-1), maxHeard), append(row(0, 1, maxHeard-1), maxNumber),
		row(0, 1, maxHeard-1), row(1, 1, maxHeard-1), row(0, 256, maxHeard-1), row(maxNumber-maxHeard+2, 1, maxHeard-1),
	}
	draw := stream(41)
	for n := range 20 {
		out = append(out, row(0, 1, n), row(n, 3, n), drawn(draw, n, 2*n+1), drawn(draw, n, maxNumber+1))
	}
	return append(out, drawn(draw, maxHeard, maxHeard+5), drawn(draw, maxHeard, maxNumber+1), drawn(draw, maxHeard-1, 3*maxHeard))
}

// unfit is numbers that may not be, as many as there may be at most: one of them is none, or they do not rise.
func unfit() [][]int {
	out := [][]int{
		{-1}, {maxNumber + 1}, {math.MinInt}, {math.MaxInt}, {1 << 32}, {-1 << 32}, {2 * maxNumber},
		{-1, 0, 1}, {math.MinInt, 3}, {0, 1, maxNumber + 1}, {0, maxNumber, maxNumber + 1}, {3, math.MaxInt}, {3, 4 + 1<<32, 5},
		{2, 1}, {1, 1}, {0, 0}, {maxNumber, maxNumber}, {maxNumber, 0}, {0, 2, 1}, {1, 0, 2}, {0, 1, 1, 2}, {0, 1, 2, 2}, {0, 0, 1}, {5, 1, 9}, {5, 9, 1},
		make([]int, maxHeard),
	}
	for _, l := range [][]int{row(0, 1, maxHeard), row(7, 255, maxHeard), row(3, 2, 9)} {
		for _, at := range []int{0, 1, 4, len(l)/2 - 1, len(l) - 2, len(l) - 1} {
			for _, n := range []int{-1, maxNumber + 1, math.MinInt, math.MaxInt} {
				out = append(out, with(l, at, n))
			}
			if at > 0 {
				out = append(out, with(l, at, l[at-1]), with(l, at, l[at-1]-1))
			}
		}
	}
	return out
}

// many is more numbers than there may be: such as may be else, and such as may not.
func many() [][]int {
	return [][]int{
		row(0, 1, maxHeard+1), row(0, 2, maxHeard+2), row(maxNumber-maxHeard, 1, maxHeard+1), row(0, 1, 1<<16), row(0, 1, maxNumber+1),
		make([]int, maxHeard+1), row(-1, 1, maxHeard+1), row(maxHeard, -1, maxHeard+1), row(0, 256, maxHeard+1), make([]int, 1<<16),
		with(row(0, 1, maxHeard+1), maxHeard, maxHeard-1), with(row(0, 1, maxHeard+1), 0, math.MinInt),
	}
}

// with is l with n in the place of the number that stands there.
func with(l []int, at, n int) []int {
	l = slices.Clone(l)
	l[at] = n
	return l
}

// none is what is no number that can be asked for.
func none() []int {
	return []int{-1, -2, math.MinInt, math.MinInt + 1, -maxNumber, maxNumber + 1, maxNumber + 2, 1 << 31, 1 << 32, 1<<32 + 1, math.MaxInt}
}

// about is numbers to ask for of l: the edges, and all of l and those beside them; of a long l, some of it.
func about(l []int) []int {
	out := []int{0, 1, 2, 5, maxHeard - 1, maxHeard, maxHeard + 1, maxNumber / 2, maxNumber - 1, maxNumber}
	for at := 0; at < len(l); at += len(l)/40 + 1 {
		out = append(out, l[at]-1, l[at], l[at]+1)
	}
	if len(l) > 0 {
		last := l[len(l)-1]
		out = append(out, last-1, last, last+1)
	}
	return slices.DeleteFunc(out, func(n int) bool { return n < 0 || n > maxNumber })
}

// orders is all orders that numbers can have; there must be each once.
func orders(numbers []int) [][]int {
	out := [][]int{nil}
	for from := 0; len(out[from]) < len(numbers); from++ {
		for _, n := range numbers {
			if !slices.Contains(out[from], n) {
				out = append(out, append(slices.Clone(out[from]), n))
			}
		}
	}
	return slices.DeleteFunc(out, func(order []int) bool { return len(order) < len(numbers) })
}

// answers is what is asked of l and n, told one by one; it does not lean on seen. put is l with n, also if n was there, or they are too many.
type answers struct {
	has   bool
	below int
	put   []int
}

func asked(l []int, n int) answers {
	var out answers
	var greater []int
	for _, other := range l {
		switch {
		case other == n:
			out.has = true
		case other < n:
			out.below++
			out.put = append(out.put, other)
		default:
			greater = append(greater, other)
		}
	}
	out.put = append(append(out.put, n), greater...)
	return out
}

// put is the answer where nothing stands against it.
func put(t *testing.T, l []int, n int) []int {
	t.Helper()
	got, e := seen.Put(l, n)
	if e != api.OK {
		t.Fatalf("Put of %d into %s: error %d", n, brief(l), int(e))
	}
	return got
}

// refused fails unless all that is asked by a number is refused by want, with nothing beside it.
func refused(t *testing.T, l []int, n int, want api.Errno) {
	t.Helper()
	if is, e := seen.Has(l, n); e != want || is {
		t.Errorf("Has of %d in %s: %v, error %d; asked for error %d", n, brief(l), is, int(e), int(want))
	}
	if below, e := seen.Below(l, n); e != want || below != 0 {
		t.Errorf("Below of %d in %s: %d, error %d; asked for error %d", n, brief(l), below, int(e), int(want))
	}
	refusedPut(t, l, n, want)
}

func refusedPut(t *testing.T, l []int, n int, want api.Errno) {
	t.Helper()
	if got, e := seen.Put(l, n); e != want || len(got) > 0 {
		t.Errorf("Put of %d into %s: %d numbers, error %d; asked for error %d", n, brief(l), len(got), int(e), int(want))
	}
}

// brief is how many l has, and the first and the last ones, which is enough to tell of it.
func brief(l []int) string {
	if len(l) <= 20 {
		return fmt.Sprint(l)
	}
	return fmt.Sprintf("%d numbers, %v .. %v", len(l), l[:3], l[len(l)-3:])
}

// behind is l in memory of its own, with numbers behind its end.
func behind(l []int) []int {
	return append(slices.Clone(l), -1, 7, maxNumber, 77)[:len(l)]
}

// memory is all the memory that l has, also behind its end.
func memory(l []int) []int { return l[:cap(l)] }

func scribble(l []int) {
	for i := range l {
		l[i] = ^l[i]
	}
}
