package ether_test

import (
	"math"
	"slices"
	"testing"

	"headcount/api"
	"headcount/ether"
)

func TestExamples(t *testing.T) {
	three, four := of(3, 1, 1, 2), of(4, 2, 3)
	l := double(t, []api.Copy{three, four}, 0, answer{l: []api.Copy{three, four, three}})
	take(t, l, 0, answer{l: []api.Copy{four, three}, c: three})
	spoil(t, []api.Copy{three}, 0, 6, 6, answer{l: []api.Copy{spoilt(of(3, 1, 129, 3))}})
}

// P12.1

func TestCheck(t *testing.T) {
	for _, l := range fit() {
		if e := ether.Check(l); e != api.OK {
			t.Errorf("Check of %s: error %d", briefs(l), int(e))
		}
	}
	for _, l := range unfit() {
		if e := ether.Check(l); e != api.ErrBad {
			t.Errorf("Check of %s: error %d", briefs(l), int(e))
		}
	}
	for _, l := range many() {
		if e := ether.Check(l); e != api.ErrMany {
			t.Errorf("Check of %s: error %d", briefs(l), int(e))
		}
	}
}

// TestCheckOfEach has each edge of a copy's Number, To and length of its text, with each of the others.
func TestCheckOfEach(t *testing.T) {
	for _, number := range []int{math.MinInt, -1, 0, 1, maxNumber - 1, maxNumber, maxNumber + 1, math.MaxInt} {
		for _, to := range []int{math.MinInt, -1, 0, 1, 7, 8, 9, math.MaxInt} {
			for _, length := range []int{0, 1, 2, 4096, 4104, 4105, 4106, 5000} {
				for _, is := range []bool{false, true} {
					c, want := api.Copy{Number: number, To: to, Text: make([]byte, length), Spoilt: is}, api.OK
					if number < 0 || number > 1048575 || to < 0 || to > 7 || length < 1 || length > 4105 {
						want = api.ErrBad
					}
					for _, l := range [][]api.Copy{{c}, {of(1, 1, 1), c}, {c, of(1, 1, 1)}} {
						if e := ether.Check(l); e != want {
							t.Errorf("Check of %s: error %d; asked for %d", briefs(l), int(e), int(want))
						}
					}
				}
			}
		}
	}
}

// anyOnes is copies that may be, and such as may not, few and many.
func anyOnes() [][]api.Copy {
	return slices.Concat(fit(), unfit()[:40], many()[:6])
}

func TestSame(t *testing.T) {
	all := anyOnes()
	for i, a := range all {
		if !ether.Same(a, a) || !ether.Same(a, cloned(a)) {
			t.Errorf("Same: %s is not the same as itself", briefs(a))
		}
		for j, b := range all {
			if want := equal(a, b); ether.Same(a, b) != want {
				t.Errorf("Same of %d and %d: not %v", i, j, want)
			}
		}
	}
}

func TestSameByHand(t *testing.T) {
	a, b := of(1, 2, 3, 4), of(5, 6, 7)
	for _, other := range [][]api.Copy{
		{}, {a}, {b}, {b, a}, {a, b, b}, {a, b, {}}, {{}, a, b}, {a, a}, {spoilt(a), b}, {a, spoilt(b)},
		{of(2, 2, 3, 4), b}, {of(1, 1, 3, 4), b}, {of(2, 1, 3, 4), b}, {of(1+1<<32, 2, 3, 4), b}, {of(1, 2+1<<32, 3, 4), b}, {a, of(6, 6, 7)}, {a, of(5, 5, 7)},
		{of(1, 2, 3), b}, {of(1, 2, 4, 3), b}, {of(1, 2, 3, 5), b}, {of(1, 2, 3, 4, 0), b}, {of(1, 2), b}, {a, of(5, 6)}, {a, of(5, 6, 8)}, {a, of(5, 6, 7, 0)}, {a, of(5, 6, 0, 7)},
	} {
		if ether.Same([]api.Copy{a, b}, other) || ether.Same(other, []api.Copy{a, b}) {
			t.Errorf("Same of %s and %s", briefs([]api.Copy{a, b}), briefs(other))
		}
	}
	if !ether.Same(nil, []api.Copy{}) || !ether.Same([]api.Copy{}, nil) {
		t.Error("Same: no copies, and none")
	}
	if empty := (api.Copy{Text: []byte{}}); !ether.Same([]api.Copy{empty}, []api.Copy{{}}) || !ether.Same([]api.Copy{{}}, []api.Copy{empty}) {
		t.Error("Same: a text without bytes, and none")
	}
}

func TestTwin(t *testing.T) {
	for _, l := range anyOnes() {
		got := ether.Twin(l)
		if !equal(got, l) || !ether.Same(got, l) {
			t.Errorf("Twin of %s: %s", briefs(l), briefs(got))
		}
	}
}

// P12.2

func TestSend(t *testing.T) {
	for _, l := range fit() {
		for _, c := range slices.Concat(fine(), faulty()) {
			send(t, l, c, sendOf(l, c))
		}
	}
}

func TestSendByHand(t *testing.T) {
	a, b := of(9, 1, 2), spoilt(of(0, 7, 3, 4))
	send(t, nil, a, answer{l: []api.Copy{a}})
	send(t, []api.Copy{a}, b, answer{l: []api.Copy{a, b}})
	send(t, []api.Copy{b, a}, a, answer{l: []api.Copy{b, a, a}})
	send(t, nil, of(9, 1), answer{e: api.ErrBad})
	send(t, row(15), a, answer{l: append(row(15), a)})
	send(t, row(16), a, answer{e: api.ErrFull})
	send(t, row(16), of(9, 8, 2), answer{e: api.ErrBad})
	send(t, row(17), of(9, 8, 2), answer{e: api.ErrMany})
}

// places is all places of l, and what is none.
func places(l []api.Copy) []int {
	out := noPlaces(len(l))
	for i := range l {
		out = append(out, i)
	}
	return out
}

func TestTake(t *testing.T) {
	for _, l := range fit() {
		for _, i := range places(l) {
			take(t, l, i, takeOf(l, i))
		}
	}
}

func TestTakeByHand(t *testing.T) {
	a, b, c := of(9, 1, 2), spoilt(of(0, 7, 3, 4)), of(9, 2, 5)
	take(t, []api.Copy{a}, 0, answer{c: a})
	take(t, []api.Copy{a, b, c}, 0, answer{l: []api.Copy{b, c}, c: a})
	take(t, []api.Copy{a, b, c}, 1, answer{l: []api.Copy{a, c}, c: b})
	take(t, []api.Copy{a, b, c}, 2, answer{l: []api.Copy{a, b}, c: c})
	take(t, []api.Copy{a, b, c}, 3, answer{e: api.ErrArg})
	take(t, []api.Copy{a, b, c}, -1, answer{e: api.ErrArg})
	take(t, nil, 0, answer{e: api.ErrArg})
	take(t, row(16), 15, answer{l: row(15), c: row(16)[15]})
}

func TestDouble(t *testing.T) {
	for _, l := range fit() {
		for _, i := range places(l) {
			double(t, l, i, doubleOf(l, i))
		}
	}
}

func TestDoubleByHand(t *testing.T) {
	a, b := of(9, 1, 2), spoilt(of(0, 7, 3, 4))
	double(t, []api.Copy{a, b}, 0, answer{l: []api.Copy{a, b, a}})
	double(t, []api.Copy{a, b}, 1, answer{l: []api.Copy{a, b, b}})
	double(t, []api.Copy{a, b}, 2, answer{e: api.ErrArg})
	double(t, nil, 0, answer{e: api.ErrArg})
	double(t, row(15), 14, answer{l: append(row(15), row(15)[14])})
	double(t, row(16), 15, answer{e: api.ErrFull})
	double(t, row(16), 16, answer{e: api.ErrArg})
	double(t, row(16), -1, answer{e: api.ErrArg})
}

func TestMany(t *testing.T) {
	for _, l := range fit() {
		numbers := []int{math.MinInt, -1, 0, 1, 2, 3, 4, 5, 6, 7, 9, maxNumber, maxNumber + 1, 1 << 32, math.MaxInt}
		for _, c := range l {
			numbers = append(numbers, c.Number-1, c.Number, c.Number+1)
		}
		for _, number := range numbers {
			want := 0
			for _, c := range l {
				if c.Number == number {
					want++
				}
			}
			if got, e := ether.Many(l, number); e != api.OK || got != want {
				t.Errorf("Many of %d in %s: %d, error %d; asked for %d", number, briefs(l), got, int(e), want)
			}
		}
	}
}

func TestManyByHand(t *testing.T) {
	l := []api.Copy{of(3, 1, 2), of(4, 3, 3), spoilt(of(3, 7, 3, 4)), of(maxNumber, 3, 3), of(3, 3, 4)}
	for _, by := range []struct{ number, many int }{{3, 3}, {4, 1}, {maxNumber, 1}, {0, 0}, {1, 0}, {-1, 0}, {maxNumber + 1, 0}, {3 + 1<<32, 0}} {
		if got, e := ether.Many(l, by.number); e != api.OK || got != by.many {
			t.Errorf("Many of %d: %d, error %d; asked for %d", by.number, got, int(e), by.many)
		}
	}
	if got, e := ether.Many(slices.Repeat(l[:1], maxFly), 3); e != api.OK || got != maxFly {
		t.Error(got, int(e))
	}
}

// TestRefused has copies that may not be: Check's error stands ahead of all others.
func TestRefused(t *testing.T) {
	for _, l := range unfit() {
		refused(t, l, api.ErrBad)
	}
	for _, l := range many() {
		refused(t, l, api.ErrMany)
	}
}

// P12.3

// TestSpoilOfShort has texts of a few bytes, each bit of them and those beside, and many masks.
func TestSpoilOfShort(t *testing.T) {
	for length := 1; length <= 6; length++ {
		for _, text := range [][]byte{make([]byte, length), long(length), slices.Repeat([]byte{255}, length)} {
			l := []api.Copy{of(1, 1, 1), of(2, 2, text...), of(2, 3, text...)}
			for at := -33; at <= 8*length+33; at++ {
				for _, mask := range append(masks(), 0) {
					spoil(t, l, 1, at, mask, spoilOf(l, 1, at, mask))
				}
			}
		}
	}
}

// TestSpoilOfEachByte turns each byte, and bits of two beside each other, by each mask of eight bits.
func TestSpoilOfEachByte(t *testing.T) {
	for b := range 256 {
		for mask := uint32(1); mask < 256; mask++ {
			spoil(t, []api.Copy{of(0, 0, byte(b))}, 0, 0, mask, answer{l: []api.Copy{spoilt(of(0, 0, byte(b)^byte(mask)))}})
			both := b<<8 + 255 - b ^ int(mask)<<5
			spoil(t, []api.Copy{of(0, 0, byte(255-b), byte(b))}, 0, 5, mask, answer{l: []api.Copy{spoilt(of(0, 0, byte(both), byte(both>>8)))}})
		}
	}
}

// TestSpoilOfLong has the longest texts, at both ends and in between.
func TestSpoilOfLong(t *testing.T) {
	for _, length := range []int{maxFrame - 1, maxFrame} {
		l := []api.Copy{of(1, 1, 1), of(2, 2, long(length)...)}
		ats := []int{math.MinInt, -1, 0, 1, 7, 8, 100, 8*length/2 + 3, 8*length + 1, 1 << 32, 1<<32 + 8, math.MaxInt - 31, math.MaxInt}
		for at := 8*length - 33; at <= 8*length; at++ {
			ats = append(ats, at)
		}
		for _, at := range ats {
			for _, mask := range []uint32{0, 1, 2, 3, 128, 256, 0x8001, 1<<31 | 1, 1 << 31, math.MaxUint32} {
				spoil(t, l, 1, at, mask, spoilOf(l, 1, at, mask))
			}
		}
	}
}

func TestSpoilByHand(t *testing.T) {
	a, b := of(3, 1, 1, 2, 3, 4), of(3, 2, 0)
	for _, by := range []struct {
		i, at int
		mask  uint32
		want  answer
	}{
		{0, 0, 1, answer{l: []api.Copy{spoilt(of(3, 1, 0, 2, 3, 4)), b}}},
		{0, 7, 1, answer{l: []api.Copy{spoilt(of(3, 1, 129, 2, 3, 4)), b}}},
		{0, 8, 1, answer{l: []api.Copy{spoilt(of(3, 1, 1, 3, 3, 4)), b}}},
		{0, 31, 1, answer{l: []api.Copy{spoilt(of(3, 1, 1, 2, 3, 132)), b}}},
		{0, 0, math.MaxUint32, answer{l: []api.Copy{spoilt(of(3, 1, 254, 253, 252, 251)), b}}},
		{0, 0, 1 << 31, answer{l: []api.Copy{spoilt(of(3, 1, 1, 2, 3, 132)), b}}},
		{0, 1, 1 << 31, answer{e: api.ErrArg}},
		{0, 1, 1 << 30, answer{l: []api.Copy{spoilt(of(3, 1, 1, 2, 3, 132)), b}}},
		{0, 32, 1, answer{e: api.ErrArg}},
		{0, 0, 0, answer{e: api.ErrArg}},
		{0, -1, 1, answer{e: api.ErrArg}},
		{0, -1, 2, answer{e: api.ErrArg}},
		{0, -8, 256, answer{e: api.ErrArg}},
		{1, 0, 255, answer{l: []api.Copy{a, spoilt(of(3, 2, 255))}}},
		{1, 0, 256, answer{e: api.ErrArg}},
		{1, 7, 1, answer{l: []api.Copy{a, spoilt(of(3, 2, 128))}}},
		{1, 7, 3, answer{e: api.ErrArg}},
		{1, 8, 1, answer{e: api.ErrArg}},
		{2, 0, 1, answer{e: api.ErrArg}},
		{-1, 0, 1, answer{e: api.ErrArg}},
	} {
		spoil(t, []api.Copy{a, b}, by.i, by.at, by.mask, by.want)
	}
}

// TestSpoilAgain has copies that are spoilt already: what is no place, or turns no bits of the text, is refused ahead of that.
func TestSpoilAgain(t *testing.T) {
	l := []api.Copy{spoilt(of(3, 1, 1, 2)), of(3, 1, 1, 2)}
	spoil(t, l, 0, 0, 1, answer{e: api.ErrAgain})
	spoil(t, l, 0, 15, 1, answer{e: api.ErrAgain})
	spoil(t, l, 0, 0, 65535, answer{e: api.ErrAgain})
	spoil(t, l, 0, 16, 1, answer{e: api.ErrArg})
	spoil(t, l, 0, 15, 2, answer{e: api.ErrArg})
	spoil(t, l, 0, -1, 2, answer{e: api.ErrArg})
	spoil(t, l, 0, 0, 0, answer{e: api.ErrArg})
	spoil(t, l, 2, 0, 1, answer{e: api.ErrArg})
	spoil(t, l, 1, 0, 1, answer{l: []api.Copy{l[0], spoilt(of(3, 1, 0, 2))}})
	for _, l := range fit() {
		for i := range l {
			got := spoil(t, l, i, 0, 1, spoilOf(l, i, 0, 1))
			if len(got) > 0 {
				spoil(t, got, i, 0, 1, answer{e: api.ErrAgain})
				spoil(t, got, i, 7, 1, answer{e: api.ErrAgain})
			}
		}
	}
}

func TestSpoilOfEachPlace(t *testing.T) {
	for _, l := range fit() {
		for _, i := range places(l) {
			for _, at := range []int{-1, 0, 3, 8, 30, maxFrame * 8, math.MaxInt} {
				for _, mask := range []uint32{0, 1, 6, 1 << 20, math.MaxUint32} {
					spoil(t, l, i, at, mask, spoilOf(l, i, at, mask))
				}
			}
		}
	}
}

// P12.4

func TestOnlyRead(t *testing.T) {
	for _, l := range anyOnes() {
		in := behind(l)
		c := behind([]api.Copy{of(4, 4, long(6)...)})
		before, beforeOne := memory(in), memory(c)
		ether.Check(in)
		ether.Same(in, behind(l))
		ether.Twin(in)
		ether.Send(in, c[0])
		ether.Many(in, 2)
		for i := -1; i <= min(len(l), 20); i++ {
			ether.Take(in, i)
			ether.Double(in, i)
			ether.Spoil(in, i, 0, 1)
			ether.Spoil(in, i, 5, 0xff)
			ether.Spoil(in, i, 8, 1<<31)
		}
		if !equal(memory(in), before) || !equal(memory(c), beforeOne) {
			t.Fatalf("%s was turned", briefs(l))
		}
	}
}

// calls is all calls that answer copies; of what is taken, what is left and it, behind that.
func calls(l []api.Copy, c api.Copy) []func() []api.Copy {
	out := []func() []api.Copy{
		func() []api.Copy { return ether.Twin(l) },
		func() []api.Copy { got, _ := ether.Send(l, c); return got },
	}
	for i := range min(len(l), maxFly) {
		out = append(out,
			func() []api.Copy { got, _ := ether.Double(l, i); return got },
			func() []api.Copy { got, _ := ether.Spoil(l, i, 0, 1); return got },
			func() []api.Copy {
				got, taken, _ := ether.Take(l, i)
				return append(got, taken)
			})
	}
	return out
}

// TestMemory writes over what was answered, also behind its end, and over what was handed in: nothing else may change by it.
func TestMemory(t *testing.T) {
	for _, l := range anyOnes() {
		if len(l) > 100 {
			continue
		}
		in, c := behind(l), behind([]api.Copy{of(4, 4, long(6)...)})
		before, beforeOne := memory(in), memory(c)
		for n, call := range calls(in, c[0]) {
			first, second := call(), call()
			want := cloned(first)
			apart(t, first)
			scribble(first)
			if !equal(memory(in), before) || !equal(memory(c), beforeOne) || !equal(second, want) || !equal(call(), want) {
				t.Fatalf("call %d on %s: the answer shares memory", n, briefs(l))
			}
			other, one := behind(l), behind([]api.Copy{of(4, 4, long(6)...)})
			third := calls(other, one[0])[n]()
			scribble(other)
			scribble(one)
			if !equal(third, want) {
				t.Fatalf("call %d on %s: the answer shares memory with what is handed in", n, briefs(l))
			}
		}
	}
}

// TestSharedText hands in copies that have their text in the same memory: one alone is spoilt, and in the answers each has its own.
func TestSharedText(t *testing.T) {
	text := long(9)
	l := []api.Copy{of(3, 1, text...), of(3, 1, text...), of(4, 1, text[2:7]...), of(5, 1, text[:4]...)}
	want := cloned(l)
	for _, call := range calls(l, of(6, 1, text...)) {
		apart(t, call())
	}
	for i := range l {
		spoil(t, l, i, 1, 0xff07ff, spoilOf(want, i, 1, 0xff07ff))
		if !equal(l, want) {
			t.Fatalf("Spoil of %d: what was handed in was turned", i)
		}
	}
}

// P12.5

// TestSentIsTaken has that what was sent is taken, whatever was taken ahead of it, and that all else stays, in order.
func TestSentIsTaken(t *testing.T) {
	for _, l := range fit() {
		if len(l) == maxFly {
			continue
		}
		for _, c := range fine() {
			sent := send(t, l, c, sendOf(l, c))
			take(t, sent, len(l), answer{l: l, c: c})
			for i := range l {
				left, _ := take(t, sent, i, answer{l: append(without(l, i), c), c: l[i]})
				take(t, left, len(l)-1, answer{l: without(l, i), c: c})
			}
		}
	}
}

// TestInEachOrder takes a few copies in each order.
func TestInEachOrder(t *testing.T) {
	var all func(l []api.Copy)
	all = func(l []api.Copy) {
		for i := range l {
			left, _ := take(t, l, i, takeOf(l, i))
			all(left)
		}
	}
	for count := range 7 {
		all(row(count))
	}
}

// TestOneAlone spoils and doubles one of the copies of a Number: all others stay as they are, and what was doubled can be spoilt of its own.
func TestOneAlone(t *testing.T) {
	for count := 1; count < maxFly; count++ {
		l := slices.Repeat([]api.Copy{of(9, 1, 5, 6, 7, 8)}, count)
		for i := range l {
			turned := spoilt(of(9, 1, 5, 6^4, 7, 8))
			one := spoil(t, l, i, 10, 1, answer{l: with(l, i, turned)})
			double(t, one, i, answer{l: append(with(l, i, turned), turned)})
			two := double(t, l, i, answer{l: append(cloned(l), l[i])})
			spoil(t, two, i, 10, 1, answer{l: append(with(l, i, turned), l[i])})
			spoil(t, two, count, 10, 1, answer{l: append(cloned(l), turned)})
			if n, e := ether.Many(two, 9); e != api.OK || n != count+1 {
				t.Errorf("Many: %d, error %d", n, int(e))
			}
		}
	}
}

// TestMayBe has that whatever is done to copies that may be, they may be, and that many more or fewer are there.
func TestMayBe(t *testing.T) {
	draw := stream(83)
	for range 300 {
		var l []api.Copy
		for range 60 {
			i, at, mask := draw(maxFly+1)-draw(2), draw(75)-draw(3), uint32(draw(1<<32))>>draw(32)
			c := drawn(draw, 1)[0]
			var want answer
			switch draw(5) {
			case 0, 1:
				want = sendOf(l, c)
				send(t, l, c, want)
			case 2:
				want = takeOf(l, i)
				take(t, l, i, want)
			case 3:
				want = doubleOf(l, i)
				double(t, l, i, want)
			default:
				want = spoilOf(l, i, at, mask)
				spoil(t, l, i, at, mask, want)
			}
			if want.e == api.OK {
				l = want.l
			}
			if e := ether.Check(l); e != api.OK {
				t.Fatalf("Check of %s: error %d", briefs(l), int(e))
			}
		}
	}
}

// P1, P2

// TestAnything hands in what looks like copies, and often is not.
func TestAnything(t *testing.T) {
	draw := stream(71)
	bad := faulty()
	for range 30000 {
		l := drawn(draw, draw(maxFly+3))
		fault := api.OK
		if draw(4) == 0 && len(l) > 0 {
			l[draw(len(l))] = bad[draw(len(bad))]
			fault = api.ErrBad
		}
		if len(l) > maxFly {
			fault = api.ErrMany
		}
		i, at, mask := draw(maxFly+3)-1, draw(84)-2, uint32(draw(1<<32))>>draw(33)
		c := drawn(draw, 1)[0]
		if draw(5) == 0 {
			c = bad[draw(len(bad))]
		}
		if fault != api.OK {
			send(t, l, c, answer{e: fault})
			take(t, l, i, answer{e: fault})
			double(t, l, i, answer{e: fault})
			spoil(t, l, i, at, mask, answer{e: fault})
			continue
		}
		send(t, l, c, sendOf(l, c))
		take(t, l, i, takeOf(l, i))
		double(t, l, i, doubleOf(l, i))
		spoil(t, l, i, at, mask, spoilOf(l, i, at, mask))
	}
}
