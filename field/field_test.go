package field_test

import (
	"bytes"
	"math"
	"slices"
	"testing"

	"headcount/api"
	"headcount/field"
)

func TestExamples(t *testing.T) {
	b, e := field.PutNumber(nil, 258, 2)
	put(t, b, e, nil, []byte{1, 2})
	for _, x := range []struct {
		a    api.Dyad
		want []byte
	}{
		{api.Dyad{Neg: true, Limbs: []uint32{3}, Exp: 2}, []byte{1, 0, 2, 1, 0, 0, 0, 3}},
		{api.Dyad{}, []byte{0, 0, 0, 0}},
	} {
		b, e := field.PutDyad(nil, x.a)
		put(t, b, e, nil, x.want)
		dyadTaken(t, api.Rest{Bytes: x.want}, x.a)
	}
	numberTaken(t, api.Rest{Bytes: []byte{1, 2}}, 2, 258)
}

// P5.1

func TestNumbersPut(t *testing.T) {
	for size := 1; size <= 8; size++ {
		for _, n := range numbers(size) {
			for _, front := range fronts() {
				b, e := field.PutNumber(front, n, size)
				put(t, b, e, front, numberField(n, size))
			}
		}
	}
}

func TestNumbersByHand(t *testing.T) {
	for _, x := range []struct {
		n    uint64
		size int
		want []byte
	}{
		{0, 1, []byte{0}},
		{0, 8, []byte{0, 0, 0, 0, 0, 0, 0, 0}},
		{255, 1, []byte{255}},
		{255, 3, []byte{0, 0, 255}},
		{256, 2, []byte{1, 0}},
		{65535, 2, []byte{255, 255}},
		{1048575, 3, []byte{15, 255, 255}},
		{0x01020304, 4, []byte{1, 2, 3, 4}},
		{0x01020304, 5, []byte{0, 1, 2, 3, 4}},
		{0x0102030405060708, 8, []byte{1, 2, 3, 4, 5, 6, 7, 8}},
		{math.MaxUint64, 8, []byte{255, 255, 255, 255, 255, 255, 255, 255}},
		{1 << 63, 8, []byte{128, 0, 0, 0, 0, 0, 0, 0}},
	} {
		b, e := field.PutNumber([]byte{9, 8}, x.n, x.size)
		put(t, b, e, []byte{9, 8}, x.want)
	}
}

// TestNumberArg also asks behind so many bytes that ErrMany would hold as well: ErrArg is named first.
func TestNumberArg(t *testing.T) {
	all := append(fronts(), make([]byte, maxText), make([]byte, maxText+1), make([]byte, 1<<17))
	for _, front := range all {
		for _, size := range noSizes() {
			for _, n := range []uint64{0, 1, 255, 256, 1 << 63, math.MaxUint64} {
				got, e := field.PutNumber(front, n, size)
				notPut(t, got, e, api.ErrArg)
			}
		}
		for size := 1; size < 8; size++ {
			for _, n := range beyond(size) {
				got, e := field.PutNumber(front, n, size)
				notPut(t, got, e, api.ErrArg)
			}
		}
	}
}

func TestNumberMany(t *testing.T) {
	draw := stream(23)
	for size := 1; size <= 8; size++ {
		for _, n := range numbers(size) {
			just := drawn(draw, maxText-size)
			got, e := field.PutNumber(just, n, size)
			put(t, got, e, just, numberField(n, size))
			for _, more := range []int{1, 2, size, size + 1, 8, 100, 1 << 16, 1<<16 + 500} {
				got, e := field.PutNumber(make([]byte, maxText-size+more), n, size)
				notPut(t, got, e, api.ErrMany)
			}
		}
	}
}

func TestDyadsPut(t *testing.T) {
	for _, a := range pool() {
		for _, front := range fronts() {
			b, e := field.PutDyad(front, a)
			put(t, b, e, front, dyadField(a))
		}
	}
}

func TestDyadsByHand(t *testing.T) {
	for _, x := range []struct {
		a    api.Dyad
		want []byte
	}{
		{whole(6), []byte{0, 0, 0, 1, 0, 0, 0, 6}},
		{negated(whole(6)), []byte{1, 0, 0, 1, 0, 0, 0, 6}},
		{parts(1024, 1), []byte{0, 4, 0, 1, 0, 0, 0, 1}},
		{negated(parts(1023, 0x01020305)), []byte{1, 3, 255, 1, 1, 2, 3, 5}},
		{parts(258, 1, 2), []byte{0, 1, 2, 2, 0, 0, 0, 1, 0, 0, 0, 2}},
		{whole(0, 1<<31), []byte{0, 0, 0, 2, 0, 0, 0, 0, 128, 0, 0, 0}},
		{whole(full(40, top)...), append([]byte{0, 0, 0, 40}, bytes.Repeat([]byte{255}, 160)...)},
		{negated(parts(1024, full(40, top)...)), append([]byte{1, 4, 0, 40}, bytes.Repeat([]byte{255}, 160)...)},
	} {
		b, e := field.PutDyad([]byte{9, 8}, x.a)
		put(t, b, e, []byte{9, 8}, x.want)
		dyadTaken(t, rest([]byte{9, 8}, x.want, []byte{7}), x.a)
	}
}

// TestDyadBad also asks behind so many bytes that ErrMany would hold as well: ErrBad is named first.
func TestDyadBad(t *testing.T) {
	all := append(fronts(), make([]byte, maxText-8), make([]byte, maxText), make([]byte, maxText+1), make([]byte, 1<<17))
	for _, front := range all {
		for _, a := range unfit() {
			got, e := field.PutDyad(front, a)
			notPut(t, got, e, api.ErrBad)
		}
	}
}

func TestDyadMany(t *testing.T) {
	draw := stream(29)
	for _, a := range pool() {
		size := 4 + 4*len(a.Limbs)
		just := drawn(draw, maxText-size)
		got, e := field.PutDyad(just, a)
		put(t, got, e, just, dyadField(a))
		for _, more := range []int{1, 2, 3, 4, 5, size, size + 1, 1 << 16, 1<<16 + 500} {
			got, e := field.PutDyad(make([]byte, maxText-size+more), a)
			notPut(t, got, e, api.ErrMany)
		}
	}
}

// P5.2

// TestRestsThatMayNotBe also has sizes that are none: ErrBad is named first.
func TestRestsThatMayNotBe(t *testing.T) {
	for _, r := range badRests() {
		for size := 1; size <= 8; size++ {
			numberRefused(t, r, size, api.ErrBad)
		}
		for _, size := range noSizes() {
			numberRefused(t, r, size, api.ErrBad)
		}
		dyadRefused(t, r, api.ErrBad)
	}
}

func TestNumbersTaken(t *testing.T) {
	for size := 1; size <= 8; size++ {
		for _, n := range numbers(size) {
			for _, front := range fronts() {
				for _, back := range behinds() {
					numberTaken(t, rest(front, numberField(n, size), back), size, n)
				}
			}
		}
	}
}

// TestNumberSize also asks where no byte is left, and ErrShort would hold as well: ErrArg is named first.
func TestNumberSize(t *testing.T) {
	for _, b := range [][]byte{nil, {}, {0}, {255}, make([]byte, 8), make([]byte, 9), bytes.Repeat([]byte{1}, 70000)} {
		for _, at := range []int{0, len(b) / 2, len(b)} {
			for _, size := range noSizes() {
				numberRefused(t, api.Rest{Bytes: b, At: at}, size, api.ErrArg)
			}
		}
	}
}

// TestNumberShort has room behind the bytes' end: what is there is not read.
func TestNumberShort(t *testing.T) {
	for size := 1; size <= 8; size++ {
		for left := range size {
			for _, front := range fronts() {
				b := joined(front, bytes.Repeat([]byte{7}, 20))[:len(front)+left]
				numberRefused(t, api.Rest{Bytes: b, At: len(front)}, size, api.ErrShort)
				numberRefused(t, api.Rest{Bytes: slices.Clip(b), At: len(front)}, size, api.ErrShort)
			}
		}
		numberRefused(t, api.Rest{}, size, api.ErrShort)
		numberRefused(t, api.Rest{Bytes: []byte{}}, size, api.ErrShort)
	}
}

func TestDyadsTaken(t *testing.T) {
	for _, a := range pool() {
		for _, front := range fronts() {
			for _, back := range behinds() {
				dyadTaken(t, rest(front, dyadField(a), back), a)
			}
		}
	}
}

// TestBeyondATextsLength is of more bytes than may be put: they may be read.
func TestBeyondATextsLength(t *testing.T) {
	front, back := drawn(stream(31), 70000), drawn(stream(37), 70000)
	for _, a := range few() {
		dyadTaken(t, rest(front, dyadField(a), back), a)
	}
	for size := 1; size <= 8; size++ {
		numberTaken(t, rest(front, numberField(200, size), back), size, 200)
	}
}

// TestDyadShort has fields that end in each of their parts, also such as would be refused by ErrForm if they went on: ErrShort is named first.
func TestDyadShort(t *testing.T) {
	var all [][]byte
	for _, a := range pool() {
		all = append(all, dyadField(a))
	}
	for _, whole := range append(all, misshapen()...) {
		for _, front := range [][]byte{nil, {3}, {1, 0, 2, 1, 0, 0, 0, 3}} {
			r := rest(front, whole, []byte{0, 0, 0, 0})
			for _, n := range cuts(len(whole)) {
				dyadRefused(t, api.Rest{Bytes: r.Bytes[:len(front)+n], At: r.At}, api.ErrShort)
			}
		}
	}
	dyadRefused(t, api.Rest{}, api.ErrShort)
	dyadRefused(t, api.Rest{Bytes: []byte{}}, api.ErrShort)
}

func TestDyadForm(t *testing.T) {
	for _, whole := range misshapen() {
		for _, front := range fronts() {
			for _, back := range behinds() {
				dyadRefused(t, rest(front, whole, back), api.ErrForm)
			}
		}
	}
}

// TestDyadHeads is of all Exps, and of all signs and numbers of limbs, some of whose fields end too early.
func TestDyadHeads(t *testing.T) {
	for exp := range 1 << 16 {
		for _, limbs := range [][]uint32{nil, {1}, {2}, {0, 1}, {1, 0}} {
			for sign := range byte(3) {
				asOracle(t, api.Rest{Bytes: rawField(sign, uint16(exp), byte(len(limbs)), limbs...)})
			}
		}
	}
	for sign := range 256 {
		for count := range 256 {
			for _, limbs := range [][]uint32{nil, full(1, 1), full(41, 1), full(255, 1)} {
				asOracle(t, api.Rest{Bytes: rawField(byte(sign), 3, byte(count), limbs...)})
			}
		}
	}
}

// P5.3

func TestDone(t *testing.T) {
	for _, b := range [][]byte{nil, {}, {0}, {0, 0}, {1, 0, 2, 1, 0, 0, 0, 3}, bytes.Repeat([]byte{1}, 5000), make([]byte, 3, 9)} {
		for at := -3; at <= len(b)+3; at++ {
			if got := field.Done(api.Rest{Bytes: b, At: at}); got != (at == len(b)) {
				t.Errorf("at %d of %d bytes: %v", at, len(b), got)
			}
		}
	}
	for _, r := range badRests() {
		if field.Done(r) {
			t.Errorf("at %d of %d bytes", r.At, len(r.Bytes))
		}
	}
}

// P5.4

// marked is b amid other bytes, with room behind it, so that what is written beside it shows.
func marked(b []byte) (all, mid []byte) {
	all = slices.Concat([]byte{0xa5, 0x5a}, b, bytes.Repeat([]byte{0xc3}, 300))
	return all, all[2 : 2+len(b)]
}

func markedLimbs(a api.Dyad) (all []uint32, mid api.Dyad) {
	all = slices.Concat(full(2, 0xa5a5a5a5), a.Limbs, full(50, 0xc3c3c3c3))
	return all, api.Dyad{Neg: a.Neg, Limbs: all[2 : 2+len(a.Limbs)], Exp: a.Exp}
}

func scribble(b []byte) {
	b = b[:cap(b)]
	for i := range b {
		b[i] = ^b[i]
	}
}

func scribbleLimbs(a api.Dyad) {
	limbs := a.Limbs[:cap(a.Limbs)]
	for i := range limbs {
		limbs[i] = ^limbs[i]
	}
}

func TestMemoryOfNumbersPut(t *testing.T) {
	for _, front := range append(fronts(), make([]byte, maxText), make([]byte, maxText+1)) {
		for _, size := range []int{0, 1, 3, 8, 9} {
			for _, n := range []uint64{0, 200, 1 << 20} {
				all, b := marked(front)
				kept := slices.Clone(all)
				first, e := field.PutNumber(b, n, size)
				want := slices.Clone(first)
				scribble(first)
				again, f := field.PutNumber(b, n, size)
				if !bytes.Equal(all, kept) || e != f || !bytes.Equal(again, want) {
					t.Errorf("%d bytes, %d, size %d: what was handed in is changed", len(front), n, size)
				}
				scribble(all)
				if !bytes.Equal(again, want) {
					t.Errorf("%d bytes, %d, size %d: the answer shares memory", len(front), n, size)
				}
			}
		}
	}
}

func TestMemoryOfDyadsPut(t *testing.T) {
	for _, front := range append(fronts(), make([]byte, maxText), make([]byte, maxText+1)) {
		for _, a := range append(few(), unfit()...) {
			all, b := marked(front)
			limbs, mid := markedLimbs(a)
			kept, keptLimbs := slices.Clone(all), slices.Clone(limbs)
			first, e := field.PutDyad(b, mid)
			want := slices.Clone(first)
			scribble(first)
			again, f := field.PutDyad(b, mid)
			if !bytes.Equal(all, kept) || !slices.Equal(limbs, keptLimbs) || e != f || !bytes.Equal(again, want) {
				t.Errorf("%d bytes, %d limbs: what was handed in is changed", len(front), len(a.Limbs))
			}
			scribble(all)
			scribbleLimbs(mid)
			if !bytes.Equal(again, want) {
				t.Errorf("%d bytes, %d limbs: the answer shares memory", len(front), len(a.Limbs))
			}
		}
	}
}

// TestMemoryOfWhatIsTaken also has fields that end too early, and such as are none.
func TestMemoryOfWhatIsTaken(t *testing.T) {
	var all [][]byte
	for _, a := range few() {
		all = append(all, dyadField(a), dyadField(a)[:3], joined(dyadField(a), []byte{0, 0}))
	}
	for _, b := range append(all, misshapen()...) {
		for _, front := range fronts() {
			whole, mid := marked(joined(front, b))
			kept := slices.Clone(whole)
			r := api.Rest{Bytes: mid, At: len(front)}
			out, a, e := field.Dyad(r)
			if e == api.OK && !sameBytes(out.Bytes, mid) {
				t.Errorf("%d bytes: a Rest's Bytes are other ones", len(mid))
			}
			want := api.Dyad{Neg: a.Neg, Limbs: slices.Clone(a.Limbs), Exp: a.Exp}
			scribbleLimbs(a)
			_, again, f := field.Dyad(r)
			numbered, n, g := field.Number(r, 3)
			if g == api.OK && !sameBytes(numbered.Bytes, mid) {
				t.Errorf("%d bytes: a Rest's Bytes are other ones", len(mid))
			}
			field.Done(r)
			if !bytes.Equal(whole, kept) || !equal(again, want) || e != f {
				t.Errorf("%d bytes: what was handed in is changed", len(mid))
			}
			if g == api.OK && n != uint64(mid[r.At])<<16|uint64(mid[r.At+1])<<8|uint64(mid[r.At+2]) {
				t.Errorf("%d bytes: the number is %d", len(mid), n)
			}
			scribble(whole)
			if !equal(again, want) {
				t.Errorf("%d bytes: the dyad shares memory", len(mid))
			}
		}
	}
}

// TestNoneIsEmpty is of bytes and limbs that are none, or without elements: they are the same.
func TestNoneIsEmpty(t *testing.T) {
	for _, b := range [][]byte{nil, {}, make([]byte, 0, 50)} {
		for _, limbs := range [][]uint32{nil, {}, make([]uint32, 0, 50)} {
			got, e := field.PutDyad(b, api.Dyad{Limbs: limbs})
			put(t, got, e, nil, []byte{0, 0, 0, 0})
		}
		got, e := field.PutNumber(b, 77, 1)
		put(t, got, e, nil, []byte{77})
		r := api.Rest{Bytes: b}
		numberRefused(t, r, 1, api.ErrShort)
		dyadRefused(t, r, api.ErrShort)
		if !field.Done(r) {
			t.Error("none is not done")
		}
	}
	dyadTaken(t, api.Rest{Bytes: []byte{0, 0, 0, 0}}, api.Dyad{})
	numberTaken(t, api.Rest{Bytes: []byte{0}}, 1, 0)
}

// P5.5

// TestRows puts rows of fields, and takes them, field by field, from the middle of other bytes.
func TestRows(t *testing.T) {
	draw := stream(43)
	dyads := pool()
	for range 500 {
		front := drawn(draw, int(draw()%50))
		b := slices.Clone(front)
		var row []any
		var sizes []int
		for range draw() % 12 {
			size := 1 + int(draw()%8)
			n := draw() >> (64 - 8*size)
			a := dyads[draw()%uint64(len(dyads))]
			x, e := field.PutNumber(b, n, size)
			y, f := field.PutDyad(x, a)
			if e != api.OK || f != api.OK {
				t.Fatalf("errors %d and %d", int(e), int(f))
			}
			b, row, sizes = y, append(row, n, a), append(sizes, size, 0)
		}
		takeRow(t, api.Rest{Bytes: b, At: len(front)}, row, sizes)
	}
}

func takeRow(t *testing.T, r api.Rest, row []any, sizes []int) {
	t.Helper()
	for i, x := range row {
		if field.Done(r) {
			t.Errorf("done at field %d of %d", i, len(row))
		}
		switch want := x.(type) {
		case uint64:
			out, n, e := field.Number(r, sizes[i])
			if e != api.OK || n != want {
				t.Errorf("field %d: %d, error %d; %d was put", i, n, int(e), want)
			}
			r = out
		case api.Dyad:
			out, a, e := field.Dyad(r)
			if e != api.OK || !equal(a, want) {
				t.Errorf("field %d: %v, error %d; %v was put", i, a, int(e), want)
			}
			r = out
		}
	}
	if !field.Done(r) {
		t.Errorf("not done at %d of %d bytes", r.At, len(r.Bytes))
	}
}

// TestWhatIsTakenWasPut puts again what is taken, out of fields that are spoilt a little, and out of bytes without a plan.
func TestWhatIsTakenWasPut(t *testing.T) {
	draw := stream(47)
	dyads := pool()
	good := 0
	for range 60000 {
		b := joined(drawn(draw, int(draw()%3)), dyadField(dyads[draw()%uint64(len(dyads))]), drawn(draw, int(draw()%6)))
		for range draw() % 3 {
			b[draw()%uint64(len(b))] = byte(draw() >> 9)
		}
		r := api.Rest{Bytes: b, At: int(draw() % uint64(len(b)+1))}
		if draw()%4 > 0 {
			r.At = min(r.At, 2)
		}
		asOracle(t, r)
		if out, a, e := field.Dyad(r); e == api.OK {
			good++
			again, f := field.PutDyad(b[:r.At], a)
			put(t, again, f, b[:r.At], b[r.At:out.At])
		}
		size := 1 + int(draw()%8)
		if out, n, e := field.Number(r, size); e == api.OK {
			again, f := field.PutNumber(b[:r.At], n, size)
			put(t, again, f, b[:r.At], b[r.At:out.At])
		}
	}
	if good < 5000 {
		t.Errorf("only %d dyads were taken", good)
	}
}

// P1, P2

// TestAnything fails by a panic, or by an answer beside an error.
func TestAnything(t *testing.T) {
	draw := stream(53)
	ints := append(noSizes(), 1, 2, 3, 4, 5, 6, 7, 8)
	dyads := append(few(), unfit()...)
	for range 20000 {
		b := drawn(draw, int(draw()%40))
		if draw()%50 == 0 {
			b = make([]byte, 3880+draw()%40)
		}
		size := ints[draw()%uint64(len(ints))]
		at := ints[draw()%uint64(len(ints))]
		if draw()%2 == 0 {
			at = int(draw()%44) - 2
		}
		n := draw() >> (draw() % 64)
		if got, e := field.PutNumber(b, n, size); e != api.OK && len(got) > 0 {
			t.Errorf("PutNumber: %d bytes, error %d", len(got), int(e))
		}
		if got, e := field.PutDyad(b, dyads[draw()%uint64(len(dyads))]); e != api.OK && len(got) > 0 {
			t.Errorf("PutDyad: %d bytes, error %d", len(got), int(e))
		}
		r := api.Rest{Bytes: b, At: at}
		if out, n, e := field.Number(r, size); e != api.OK && (n != 0 || !sameRest(out, api.Rest{})) {
			t.Errorf("Number: %d, %v, error %d", n, out, int(e))
		}
		if out, a, e := field.Dyad(r); e != api.OK && (!equal(a, api.Dyad{}) || !sameRest(out, api.Rest{})) {
			t.Errorf("Dyad: %v, %v, error %d", a, out, int(e))
		}
		if got := field.Done(r); got != (at == len(b)) {
			t.Errorf("Done at %d of %d bytes: %v", at, len(b), got)
		}
	}
}
