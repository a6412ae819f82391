package timer_test

import (
	"fmt"
	"math"
	"slices"
	"testing"

	"headcount/api"
	"headcount/timer"
)

const (
	maxStamp  = 2147483647
	maxNumber = 1048575
	maxTimers = 1024
)

// stream is numbers that look as if drawn, the same ones each time.
func stream(x uint64) func(below int) int {
	return func(below int) int {
		x ^= x << 13
		x ^= x >> 7
		x ^= x << 17
		return int(x % uint64(below))
	}
}

// of is timers, each by its At and its Number.
func of(numbers ...int) []api.Timer {
	var out []api.Timer
	for i := 0; i < len(numbers); i += 2 {
		out = append(out, api.Timer{At: numbers[i], Number: numbers[i+1]})
	}
	return out
}

// one is a timer, by its At and its Number.
func one(at, number int) api.Timer { return api.Timer{At: at, Number: number} }

// key is one number for each timer that may be; that of a timer that is ahead is less.
func key(t api.Timer) int { return t.At<<20 + t.Number }

// byKeys is timers by their keys, each once, in order.
func byKeys(keys map[int]bool) []api.Timer {
	var rising []int
	for k := range keys {
		rising = append(rising, k)
	}
	slices.Sort(rising)
	var out []api.Timer
	for _, k := range rising {
		out = append(out, one(k>>20, k&(1<<20-1)))
	}
	return out
}

// keysOf is the keys of l, of which each may be.
func keysOf(l []api.Timer) map[int]bool {
	out := map[int]bool{}
	for _, t := range l {
		out[key(t)] = true
	}
	return out
}

// row is count timers in order: some of each At, and Numbers that stand at several ones.
func row(count int) []api.Timer {
	var out []api.Timer
	for i := range count {
		out = append(out, one(i/3*2, i%3*4+i/3%5))
	}
	return out
}

// drawn is count timers in order, of few Ats and Numbers or of many.
func drawn(draw func(below int) int, count, ats, numbers int) []api.Timer {
	keys := map[int]bool{}
	for len(keys) < count {
		keys[key(one(draw(ats), draw(numbers)))] = true
	}
	return byKeys(keys)
}

// mixed is l in another order.
func mixed(draw func(below int) int, l []api.Timer) []api.Timer {
	l = slices.Clone(l)
	for i := range l {
		other := i + draw(len(l)-i)
		l[i], l[other] = l[other], l[i]
	}
	return l
}

// fine is single timers that may be: the edges of At and Number.
func fine() []api.Timer {
	var out []api.Timer
	for _, at := range []int{0, 1, 2, 5, 255, 256, 65535, 65536, maxStamp / 2, maxStamp - 1, maxStamp} {
		for _, number := range []int{0, 1, 2, 7, 255, 65536, maxNumber - 1, maxNumber} {
			out = append(out, one(at, number))
		}
	}
	return out
}

// beyond is numbers that are not from 0 to high, also such as would be in fewer digits.
func beyond(high int) []int {
	return []int{-1, -2, math.MinInt, math.MinInt + 1, -high, high + 1, high + 2, 1 << 32, 1<<32 + 1, 1<<32 + high, -1 << 32, math.MaxInt}
}

// faulty is single timers that may not be.
func faulty() []api.Timer {
	var out []api.Timer
	for _, n := range beyond(maxStamp) {
		out = append(out, one(n, 0), one(n, 3), one(n, maxNumber), one(n, -1))
	}
	for _, n := range beyond(maxNumber) {
		out = append(out, one(0, n), one(3, n), one(maxStamp, n), one(maxStamp+1, n))
	}
	return out
}

// fit is timers that may be: none, few, as many as there may be.
func fit() [][]api.Timer {
	out := [][]api.Timer{nil, {}, fine(), of(0, 0, maxStamp, maxNumber), of(3, 9, 5, 0, 5, 1), of(4, 2, 6, 2, 9, 0, 9, 1), of(0, maxNumber, 1, 0), of(2, 7, 3, 7, 4, 7)}
	for _, t := range fine() {
		out = append(out, []api.Timer{t})
	}
	draw := stream(23)
	for count := range 20 {
		out = append(out, row(count), drawn(draw, count, 6, 6), drawn(draw, count, 2, 40), drawn(draw, count, 40, 2), drawn(draw, count, maxStamp+1, maxNumber+1))
	}
	for _, count := range []int{100, maxTimers - 1, maxTimers} {
		out = append(out, row(count), drawn(draw, count, 40, 40), drawn(draw, count, 1, 2*count), drawn(draw, count, 2*count, 1), drawn(draw, count, maxStamp+1, maxNumber+1))
	}
	var ends []api.Timer
	for i := range maxTimers {
		ends = append(ends, one(maxStamp, maxNumber-maxTimers+1+i))
	}
	return append(out, ends)
}

// with is l with t in the place of the timer that stands there.
func with(l []api.Timer, at int, t api.Timer) []api.Timer {
	l = slices.Clone(l)
	l[at] = t
	return l
}

// faultyLists is lists of timers of which one may not be, all others in order; as many as there may be at most.
func faultyLists() [][]api.Timer {
	var out [][]api.Timer
	for i, t := range faulty() {
		out = append(out, []api.Timer{t}, append([]api.Timer{t}, of(3, 3)...), append(of(3, 3), t), append(of(3, 3), t, one(5, 5)))
		for _, count := range []int{2, 7, maxTimers} {
			out = append(out, with(row(count), i%count, t))
		}
	}
	return out
}

// unordered is lists of timers that may be, each by itself, which are not each ahead of the next one; as many as there may be at most.
func unordered() [][]api.Timer {
	out := [][]api.Timer{of(0, 0, 0, 0), of(2, 0, 1, 0), of(2, 1, 2, 0), of(2, 0, 1, 9), of(maxStamp, maxNumber, maxStamp, maxNumber), of(maxStamp, 0, 0, 0), of(1, 1, 2, 2, 2, 2), of(1, 1, 1, 1, 2, 2), of(1, 1, 3, 3, 2, 2, 4, 4), of(5, 1, 3, 9, 5, 0, 3, 9), make([]api.Timer, maxTimers)}
	for _, count := range []int{2, 3, 7, maxTimers} {
		l := row(count)
		for at := 1; at < count; at += count/7 + 1 {
			swapped := with(l, at, l[at-1])
			swapped[at-1] = l[at]
			out = append(out, with(l, at, l[at-1]), swapped)
		}
		out = append(out, with(l, count-1, l[count-2]), with(l, 0, l[1]))
		slices.Reverse(l)
		out = append(out, l)
	}
	return out
}

// unfit is timers that may not be, as many as there may be at most.
func unfit() [][]api.Timer { return append(faultyLists(), unordered()...) }

// many is more timers than there may be: such as may be else, and such as may not.
func many() [][]api.Timer {
	draw := stream(29)
	out := [][]api.Timer{row(maxTimers + 1), row(maxTimers + 2), row(1 << 16), drawn(draw, maxTimers+1, 50, 50), make([]api.Timer, maxTimers+1), make([]api.Timer, 1<<16+1), mixed(draw, row(maxTimers+1)), slices.Repeat(of(3, 4), 2*maxTimers)}
	for _, t := range []api.Timer{one(-1, 0), one(0, -1), one(maxStamp+1, 0), one(0, maxNumber+1)} {
		out = append(out, with(row(maxTimers+1), 0, t), with(row(maxTimers+1), maxTimers, t), slices.Repeat([]api.Timer{t}, maxTimers+1))
	}
	return out
}

// answer is what a call answers, or is asked for: what it does not have is zero.
type answer struct {
	l, left []api.Timer
	one     api.Timer
	e       api.Errno
}

// eachMayBe tells it by hand.
func eachMayBe(l []api.Timer) bool {
	for _, t := range l {
		if t.At < 0 || t.At > 2147483647 || t.Number < 0 || t.Number > 1048575 {
			return false
		}
	}
	return true
}

// checkOf is the error by which l may not be. It does not lean on timer.
func checkOf(l []api.Timer) api.Errno {
	if len(l) > 1024 {
		return api.ErrMany
	}
	if !eachMayBe(l) {
		return api.ErrBad
	}
	for i := 1; i < len(l); i++ {
		if key(l[i]) <= key(l[i-1]) {
			return api.ErrBad
		}
	}
	return api.OK
}

func orderOf(l []api.Timer) answer {
	if len(l) > 1024 {
		return answer{e: api.ErrMany}
	}
	if !eachMayBe(l) {
		return answer{e: api.ErrBad}
	}
	return answer{l: byKeys(keysOf(l))}
}

func setOf(l []api.Timer, x api.Timer) answer {
	if e := checkOf(l); e != api.OK {
		return answer{e: e}
	}
	if !eachMayBe([]api.Timer{x}) {
		return answer{e: api.ErrBad}
	}
	keys := keysOf(l)
	if keys[key(x)] {
		return answer{e: api.ErrAgain}
	}
	if len(keys) == 1024 {
		return answer{e: api.ErrFull}
	}
	keys[key(x)] = true
	return answer{l: byKeys(keys)}
}

func nextOf(l []api.Timer) answer {
	if e := checkOf(l); e != api.OK {
		return answer{e: e}
	}
	if len(l) == 0 {
		return answer{e: api.ErrNone}
	}
	least := l[0]
	for _, t := range l {
		if key(t) < key(least) {
			least = t
		}
	}
	return answer{one: least}
}

func dueOf(l []api.Timer, now int) answer {
	if e := checkOf(l); e != api.OK {
		return answer{e: e}
	}
	if now < 0 || now > 2147483647 {
		return answer{e: api.ErrArg}
	}
	var out answer
	for _, t := range l {
		if t.At <= now {
			out.l = append(out.l, t)
		} else {
			out.left = append(out.left, t)
		}
	}
	return out
}

func offOf(l []api.Timer, number int) answer {
	if e := checkOf(l); e != api.OK {
		return answer{e: e}
	}
	if number < 0 || number > 1048575 {
		return answer{e: api.ErrArg}
	}
	var out answer
	for _, t := range l {
		if t.Number != number {
			out.l = append(out.l, t)
		}
	}
	return out
}

// compare fails unless a call answered what is asked for.
func compare(t *testing.T, call string, l []api.Timer, got, want answer) {
	t.Helper()
	if got.e != want.e || got.one != want.one || !slices.Equal(got.l, want.l) || !slices.Equal(got.left, want.left) {
		t.Fatalf("%s of %s: %s, %s, %v, error %d; asked for %s, %s, %v, error %d", call, brief(l),
			brief(got.l), brief(got.left), got.one, int(got.e), brief(want.l), brief(want.left), want.one, int(want.e))
	}
}

func order(t *testing.T, l []api.Timer, want answer) []api.Timer {
	t.Helper()
	got, e := timer.Order(l)
	compare(t, "Order", l, answer{l: got, e: e}, want)
	return got
}

func set(t *testing.T, l []api.Timer, x api.Timer, want answer) []api.Timer {
	t.Helper()
	got, e := timer.Set(l, x)
	compare(t, fmt.Sprintf("Set by %v", x), l, answer{l: got, e: e}, want)
	return got
}

func next(t *testing.T, l []api.Timer, want answer) {
	t.Helper()
	got, e := timer.Next(l)
	compare(t, "Next", l, answer{one: got, e: e}, want)
}

func due(t *testing.T, l []api.Timer, now int, want answer) (over, left []api.Timer) {
	t.Helper()
	over, left, e := timer.Due(l, now)
	compare(t, fmt.Sprintf("Due at %d", now), l, answer{l: over, left: left, e: e}, want)
	return over, left
}

func off(t *testing.T, l []api.Timer, number int, want answer) []api.Timer {
	t.Helper()
	got, e := timer.Off(l, number)
	compare(t, fmt.Sprintf("Off by %d", number), l, answer{l: got, e: e}, want)
	return got
}

// brief is how many l has, and the first and the last ones, which is enough to tell of it.
func brief(l []api.Timer) string {
	if len(l) <= 12 {
		return fmt.Sprint(l)
	}
	return fmt.Sprintf("%d timers, %v .. %v", len(l), l[:3], l[len(l)-3:])
}

// behind is l in memory of its own, with timers behind its end.
func behind(l []api.Timer) []api.Timer {
	return append(slices.Clone(l), one(-1, 7), one(7, maxNumber), one(maxStamp, 3))[:len(l)]
}

// memory is all the memory that l has, also behind its end.
func memory(l []api.Timer) []api.Timer { return l[:cap(l)] }

func scribble(l []api.Timer) {
	for i := range l {
		l[i] = one(^l[i].At, ^l[i].Number)
	}
}
