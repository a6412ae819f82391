package ether_test

import (
	"fmt"
	"math"
	"slices"
	"testing"

	"headcount/api"
	"headcount/ether"
)

const (
	maxNumber = 1048575
	maxNodes  = 8
	maxFrame  = 4105
	maxFly    = 16
)

// stream is numbers that look as if drawn, the same ones each time.
func stream(x uint64) func(below int) int {
	return func(below int) int {
		x ^= x << 13
		x ^= x >> 7
		x ^= x << 17
		return int(x % uint64(below))
	}
}

func of(number, to int, text ...byte) api.Copy {
	return api.Copy{Number: number, To: to, Text: text}
}

func spoilt(c api.Copy) api.Copy {
	c.Spoilt = true
	return c
}

// long is a text of that many bytes, no two beside each other being the same.
func long(count int) []byte {
	out := make([]byte, count)
	for i := range out {
		out[i] = byte(i*37 + 11)
	}
	return out
}

// row is count copies that may be: some of the same Number, some spoilt, with texts of several lengths.
func row(count int) []api.Copy {
	var out []api.Copy
	for i := range count {
		c := of(i*2%7, i%maxNodes, long(i%5+1)...)
		c.Spoilt = i%3 == 2
		out = append(out, c)
	}
	return out
}

// drawn is count copies that may be.
func drawn(draw func(below int) int, count int) []api.Copy {
	var out []api.Copy
	for range count {
		c := api.Copy{Number: draw(maxNumber + 1), To: draw(maxNodes), Spoilt: draw(3) == 0}
		if draw(2) == 0 {
			c.Number = draw(4)
		}
		for range 1 + draw(9) {
			c.Text = append(c.Text, byte(draw(256)))
		}
		out = append(out, c)
	}
	return out
}

// fine is single copies that may be.
func fine() []api.Copy {
	return []api.Copy{
		of(0, 0, 0), of(1, 0, 0), of(0, 1, 0), of(0, 0, 1), of(0, 0, 255), of(0, 0, 0, 0), spoilt(of(0, 0, 0)), of(5, 3, 7, 8, 9), spoilt(of(5, 3, 7, 8, 9)),
		of(maxNumber-1, 6, 4), of(maxNumber, 7, 4), spoilt(of(maxNumber, 7, 255, 0, 255)), of(maxNumber, 0, long(maxFrame)...), of(0, 7, long(maxFrame-1)...),
		spoilt(of(65536, 2, long(100)...)), of(3, 3, make([]byte, maxFrame)...),
	}
}

// faulty is single copies that may not be.
func faulty() []api.Copy {
	out := []api.Copy{{}, of(0, 0), spoilt(of(0, 0)), {Number: 3, To: 3, Text: []byte{}}, of(4, 4, long(maxFrame+1)...), spoilt(of(4, 4, long(maxFrame+1)...)), of(4, 4, make([]byte, 1<<16)...)}
	for _, number := range []int{-1, -2, math.MinInt, maxNumber + 1, maxNumber + 2, 1 << 32, 1<<32 + 5, math.MaxInt} {
		out = append(out, of(number, 2, 1, 2), spoilt(of(number, 2, 1, 2)))
	}
	for _, to := range []int{-1, -2, math.MinInt, maxNodes, maxNodes + 1, 256, 1 << 32, 1<<32 + 5, math.MaxInt} {
		out = append(out, of(2, to, 1, 2), spoilt(of(2, to, 1, 2)))
	}
	return out
}

// fit is copies that may be: none, few, as many as there may be.
func fit() [][]api.Copy {
	out := [][]api.Copy{nil, {}, fine(), fine()[:2], fine()[12:15], {of(3, 0, 1), of(4, 0, 1)}, slices.Repeat([]api.Copy{of(9, 1, 5, 6)}, maxFly), slices.Repeat([]api.Copy{spoilt(of(9, 1, 5, 6))}, 3)}
	for _, c := range fine() {
		out = append(out, []api.Copy{c})
	}
	draw := stream(19)
	for count := range maxFly + 1 {
		out = append(out, row(count), drawn(draw, count))
	}
	return out
}

// unfit is copies that may not be, as many as there may be at most: just one of them may not.
func unfit() [][]api.Copy {
	var out [][]api.Copy
	for _, c := range faulty() {
		out = append(out, []api.Copy{c})
		for _, l := range [][]api.Copy{row(2), row(5), row(maxFly), fine()} {
			for _, at := range []int{0, len(l) / 2, len(l) - 1} {
				out = append(out, with(l, at, c))
			}
		}
	}
	for at := range maxFly {
		out = append(out, with(row(maxFly), at, of(-1, 0, 1)), with(row(maxFly), at, of(0, 8, 1)), with(row(maxFly), at, of(0, 0)))
	}
	return out
}

// many is more copies than there may be: such as may be else, and such as may not.
func many() [][]api.Copy {
	return [][]api.Copy{
		row(maxFly + 1), row(maxFly + 2), row(40), row(1000), append(fine(), of(1, 1, 1)), make([]api.Copy, maxFly+1), make([]api.Copy, 70000),
		with(row(maxFly+1), 0, of(-1, 0, 1)), with(row(maxFly+1), maxFly, of(0, 0)), with(row(maxFly+1), 7, of(0, 9, 1)),
	}
}

// with is l with c in the place of the copy that stands there.
func with(l []api.Copy, at int, c api.Copy) []api.Copy {
	l = slices.Clone(l)
	l[at] = c
	return l
}

// noPlaces is what is no place among count copies.
func noPlaces(count int) []int {
	return []int{-1, -2, math.MinInt, count, count + 1, count + maxFly, 1 << 32, 1<<32 + 1, math.MaxInt}
}

// equal tells whether a and b are the same; it does not lean on ether.
func equal(a, b []api.Copy) bool {
	if len(a) != len(b) {
		return false
	}
	for i := range a {
		if a[i].Number != b[i].Number || a[i].To != b[i].To || a[i].Spoilt != b[i].Spoilt || string(a[i].Text) != string(b[i].Text) {
			return false
		}
	}
	return true
}

func cloned(l []api.Copy) []api.Copy {
	var out []api.Copy
	for _, c := range l {
		c.Text = slices.Clone(c.Text)
		out = append(out, c)
	}
	return out
}

// without is l without the copy of the place i.
func without(l []api.Copy, i int) []api.Copy {
	var out []api.Copy
	for place, c := range l {
		if place != i {
			out = append(out, c)
		}
	}
	return out
}

// turned is the text with its bits listed, turned one by one, and put together again; fit is whether it may be turned so.
func turned(text []byte, at int, mask uint32) (out []byte, fit bool) {
	listed := make([]bool, 8*len(text))
	for n := range listed {
		listed[n] = int(text[n/8])/power(n%8)%2 == 1
	}
	if at < 0 || at >= len(listed) || mask == 0 {
		return nil, false
	}
	for place := 0; place < 32; place++ {
		if int64(mask)/int64(power(place))%2 == 0 {
			continue
		}
		if at+place >= len(listed) {
			return nil, false
		}
		listed[at+place] = !listed[at+place]
	}
	out = make([]byte, len(text))
	for n, one := range listed {
		if one {
			out[n/8] += byte(power(n % 8))
		}
	}
	return out, true
}

func power(n int) int {
	out := 1
	for range n {
		out *= 2
	}
	return out
}

// masks is masks of one bit, of all, of runs and of some.
func masks() []uint32 {
	out := []uint32{2, 3, 5, 6, 7, 255, 256, 257, 0x8001, 65535, 1 << 31, 1<<31 | 1, math.MaxUint32, math.MaxUint32 - 1, math.MaxUint32 >> 1, 0x55555555, 0xaaaaaaaa, 0x12345678}
	for place := range 32 {
		out = append(out, 1<<place, 1<<place|1, 1<<place-1)
	}
	return slices.DeleteFunc(out, func(mask uint32) bool { return mask == 0 })
}

// answer is what a call should answer.
type answer struct {
	l []api.Copy
	c api.Copy
	e api.Errno
}

// What the calls should answer, of copies that may be.

func sendOf(l []api.Copy, c api.Copy) answer {
	if c.Number < 0 || c.Number > 1048575 || c.To < 0 || c.To > 7 || len(c.Text) == 0 || len(c.Text) > 4105 {
		return answer{e: api.ErrBad}
	}
	if len(l) == 16 {
		return answer{e: api.ErrFull}
	}
	return answer{l: append(cloned(l), c)}
}

func takeOf(l []api.Copy, i int) answer {
	if i < 0 || i >= len(l) {
		return answer{e: api.ErrArg}
	}
	return answer{l: without(l, i), c: l[i]}
}

func doubleOf(l []api.Copy, i int) answer {
	if i < 0 || i >= len(l) {
		return answer{e: api.ErrArg}
	}
	if len(l) == 16 {
		return answer{e: api.ErrFull}
	}
	return answer{l: append(cloned(l), l[i])}
}

func spoilOf(l []api.Copy, i, at int, mask uint32) answer {
	if i < 0 || i >= len(l) {
		return answer{e: api.ErrArg}
	}
	text, fit := turned(l[i].Text, at, mask)
	if !fit {
		return answer{e: api.ErrArg}
	}
	if l[i].Spoilt {
		return answer{e: api.ErrAgain}
	}
	return answer{l: with(l, i, api.Copy{Number: l[i].Number, To: l[i].To, Text: text, Spoilt: true})}
}

// The calls, and what they should answer: they fail, unless it is that, with nothing beside an error.

func send(t *testing.T, l []api.Copy, c api.Copy, want answer) []api.Copy {
	t.Helper()
	got, e := ether.Send(l, c)
	if e != want.e || !equal(got, want.l) {
		t.Errorf("Send of %s to %s: %s, error %d; asked for %s, error %d", brief(c), briefs(l), briefs(got), int(e), briefs(want.l), int(want.e))
	}
	return got
}

func take(t *testing.T, l []api.Copy, i int, want answer) ([]api.Copy, api.Copy) {
	t.Helper()
	got, c, e := ether.Take(l, i)
	if e != want.e || !equal(got, want.l) || !equal([]api.Copy{c}, []api.Copy{want.c}) {
		t.Errorf("Take of %d of %s: %s, and %s, error %d; asked for %s, and %s, error %d", i, briefs(l), briefs(got), brief(c), int(e), briefs(want.l), brief(want.c), int(want.e))
	}
	return got, c
}

func double(t *testing.T, l []api.Copy, i int, want answer) []api.Copy {
	t.Helper()
	got, e := ether.Double(l, i)
	if e != want.e || !equal(got, want.l) {
		t.Errorf("Double of %d of %s: %s, error %d; asked for %s, error %d", i, briefs(l), briefs(got), int(e), briefs(want.l), int(want.e))
	}
	return got
}

func spoil(t *testing.T, l []api.Copy, i, at int, mask uint32, want answer) []api.Copy {
	t.Helper()
	got, e := ether.Spoil(l, i, at, mask)
	if e != want.e || !equal(got, want.l) {
		t.Errorf("Spoil of %d of %s at %d by %#x: %s, error %d; asked for %s, error %d", i, briefs(l), at, mask, briefs(got), int(e), briefs(want.l), int(want.e))
	}
	return got
}

// refused fails unless all calls on l are refused by want, whatever else they are given.
func refused(t *testing.T, l []api.Copy, want api.Errno) {
	t.Helper()
	for _, c := range []api.Copy{of(0, 0, 1), of(3, 3, long(9)...), {}, of(-1, 9)} {
		send(t, l, c, answer{e: want})
	}
	for _, i := range []int{-1, 0, 1, len(l) - 1, len(l), math.MinInt, math.MaxInt} {
		take(t, l, i, answer{e: want})
		double(t, l, i, answer{e: want})
		spoil(t, l, i, 0, 1, answer{e: want})
		spoil(t, l, i, -1, 0, answer{e: want})
	}
	for _, number := range []int{-1, 0, 1, 2, 9, maxNumber, maxNumber + 1} {
		if n, e := ether.Many(l, number); e != want || n != 0 {
			t.Errorf("Many of %d in %s: %d, error %d; asked for error %d", number, briefs(l), n, int(e), int(want))
		}
	}
}

// brief is a copy, of whose text no more is told than its length, if it is long.
func brief(c api.Copy) string {
	text := fmt.Sprint(c.Text)
	if len(c.Text) > 12 {
		text = fmt.Sprint(len(c.Text), " bytes")
	}
	return fmt.Sprintf("{%d %d %s %v}", c.Number, c.To, text, c.Spoilt)
}

func briefs(l []api.Copy) string {
	if len(l) > 40 {
		return fmt.Sprint(len(l), " copies")
	}
	out := "["
	for _, c := range l {
		out += brief(c)
	}
	return out + "]"
}

// behind is l in memory of its own, with copies behind its end, and bytes behind the end of each text.
func behind(l []api.Copy) []api.Copy {
	out := append(cloned(l), of(77, 6, 77), of(78, 5, 78))[:len(l)]
	for i, c := range out {
		out[i].Text = append(slices.Clone(c.Text), 200, 201, 202)[:len(c.Text)]
	}
	return out
}

// memory is what stands in all the memory that l has, also behind its end and those of its texts.
func memory(l []api.Copy) []api.Copy {
	out := slices.Clone(l[:cap(l)])
	for i, c := range out {
		out[i].Text = slices.Clone(c.Text[:cap(c.Text)])
	}
	return out
}

// scribble writes over all the memory that l has.
func scribble(l []api.Copy) {
	l = l[:cap(l)]
	for i, c := range l {
		scrawl(c)
		l[i] = api.Copy{Number: ^c.Number, To: ^c.To, Spoilt: !c.Spoilt}
	}
}

func scrawl(c api.Copy) {
	text := c.Text[:cap(c.Text)]
	for i := range text {
		text[i] = ^text[i]
	}
}

// apart fails unless each text of l is in memory of its own, also behind its end.
func apart(t *testing.T, l []api.Copy) {
	t.Helper()
	for i := range l {
		before := memory(without(l, i))
		scrawl(l[i])
		after := memory(without(l, i))
		scrawl(l[i])
		if !equal(before, after) {
			t.Fatalf("the text of place %d of %s shares memory with another one", i, briefs(l))
		}
	}
}
