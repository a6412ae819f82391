package frame_test

import (
	"bytes"
	"hash/crc32"
	"math/bits"
	"slices"
	"testing"

	"headcount/api"
	"headcount/frame"
)

func TestExamples(t *testing.T) {
	if got := frame.Sum([]byte("123456789")); got != 0xcbf43926 {
		t.Errorf("the sum is %x", got)
	}
	got, e := frame.Put(1, nil)
	if e != api.OK || len(got) != 9 || !bytes.Equal(got[:5], []byte{72, 1, 1, 0, 0}) || !bytes.Equal(got, framed(1, nil)) {
		t.Errorf("the frame is %v, error %d", got, int(e))
	}
}

// P4.1

func TestSumsThatAreKnown(t *testing.T) {
	for text, want := range map[string]uint32{
		"":                 0,
		"\x00":             0xd202ef8d,
		"\xff":             0xff000000,
		"a":                0xe8b7be43,
		"abc":              0x352441c2,
		"\x00\x00\x00\x00": 0x2144df1c,
		"\xff\xff\xff\xff": 0xffffffff,
		"The quick brown fox jumps over the lazy dog": 0x414fa339,
	} {
		if got := frame.Sum([]byte(text)); got != want {
			t.Errorf("the sum of %q is %x; asked for %x", text, got, want)
		}
	}
	if got := frame.Sum(nil); got != 0 {
		t.Errorf("the sum of none is %x", got)
	}
}

func TestSums(t *testing.T) {
	draw := stream(7)
	var all [][]byte
	for n := range 300 {
		all = append(all, drawn(draw, n), make([]byte, n), bytes.Repeat([]byte{255}, n))
	}
	for _, k := range kinds() {
		all = append(all, []byte{k}, []byte{k, 0}, []byte{0, k}, []byte{255, k, 255})
	}
	for _, n := range []int{4095, 4096, 4097, 4105, 4106, 65535, 65536, 65537, 1 << 20} {
		all = append(all, drawn(draw, n), make([]byte, n))
	}
	for _, b := range append(all, contents()...) {
		if got, want := frame.Sum(b), crc32.ChecksumIEEE(b); got != want {
			t.Errorf("the sum of %d bytes, %v, is %x; asked for %x", len(b), short(b), got, want)
		}
	}
}

func TestFrames(t *testing.T) {
	for _, kind := range kinds() {
		for _, c := range contents() {
			got, e := frame.Put(kind, c)
			if want := framed(kind, c); e != api.OK || !bytes.Equal(got, want) {
				t.Errorf("kind %d, %d bytes: %v, error %d; asked for %v", kind, len(c), short(got), int(e), short(want))
			}
		}
	}
}

// TestAllLengths is from 0 to the greatest one, and a little above it.
func TestAllLengths(t *testing.T) {
	all := drawn(stream(19), 4200)
	for n := range all {
		got, e := frame.Put(9, all[:n])
		if n <= 4096 && (e != api.OK || !bytes.Equal(got, framed(9, all[:n]))) {
			t.Errorf("%d bytes: %v, error %d", n, short(got), int(e))
		}
		if n > 4096 && (e != api.ErrMany || len(got) > 0) {
			t.Errorf("%d bytes: %v, error %d; asked for error %d", n, short(got), int(e), int(api.ErrMany))
		}
	}
}

func TestMany(t *testing.T) {
	draw := stream(23)
	for _, n := range []int{4097, 4098, 4105, 5000, 8192, 65535, 65536, 65537, 65536 + 4096, 1 << 20} {
		for _, kind := range []uint8{0, 1, 72, 255} {
			for _, c := range [][]byte{make([]byte, n), drawn(draw, n)} {
				if got, e := frame.Put(kind, c); e != api.ErrMany || len(got) > 0 {
					t.Errorf("kind %d, %d bytes: %v, error %d", kind, n, short(got), int(e))
				}
			}
		}
	}
}

// P4.2

func TestTaken(t *testing.T) {
	for _, kind := range kinds() {
		for _, c := range contents() {
			taken(t, framed(kind, c), kind, c)
		}
	}
}

// TestShort also has bytes whose last four are the sum of the others, and such as a frame begins with.
func TestShort(t *testing.T) {
	draw := stream(29)
	refused(t, nil, api.ErrShort)
	for n := range 9 {
		for range 50 {
			refused(t, drawn(draw, n), api.ErrShort)
		}
		refused(t, make([]byte, n), api.ErrShort)
		refused(t, bytes.Repeat([]byte{255}, n), api.ErrShort)
		refused(t, framed(1, nil)[:n], api.ErrShort)
		refused(t, framed(1, []byte("hello"))[:n], api.ErrShort)
		if n < 4 {
			continue
		}
		refused(t, summed(framed(1, nil)[:n-4]), api.ErrShort)
		refused(t, summed(drawn(draw, n-4)), api.ErrShort)
	}
}

func TestOtherSum(t *testing.T) {
	for _, c := range few() {
		whole := framed(5, c)
		n := len(whole) - 4
		for i := range 32 {
			refused(t, turned(whole, 8*n, 1<<i), api.ErrSum)
		}
		refused(t, turned(whole, 8*n, 1<<32-1), api.ErrSum)
		others := [][]byte{whole[:n-1], whole[1:n], whole[2:n], whole[5:n], append([]byte{0}, whole[:n]...), append(slices.Clone(whole[:n]), 0), whole}
		for _, other := range others {
			sum := summed(other)[len(other):]
			refused(t, append(slices.Clone(whole[:n]), sum...), api.ErrSum)
		}
		highestFirst := slices.Clone(whole)
		slices.Reverse(highestFirst[n:])
		refused(t, highestFirst, api.ErrSum)
	}
}

// TestSumAheadOfForm has all that ErrForm is told for, with a sum that is another one.
func TestSumAheadOfForm(t *testing.T) {
	for _, b := range misshapen() {
		refused(t, unsummed(b), api.ErrSum)
	}
	draw := stream(31)
	for _, n := range []int{9, 10, 13, 100, 4105, 4106, 70000} {
		refused(t, make([]byte, n), api.ErrSum)
		refused(t, drawn(draw, n), api.ErrSum)
	}
}

func TestForm(t *testing.T) {
	for _, b := range misshapen() {
		refused(t, summed(b), api.ErrForm)
	}
}

// misshapen is what is no frame, whatever its sum, but has bytes enough.
func misshapen() [][]byte {
	var out [][]byte
	some := [][]byte{nil, {7}, []byte("hello"), make([]byte, 4096)}
	for _, k := range kinds() {
		for _, c := range some[:3] {
			if k != 72 {
				out = append(out, append([]byte{k, 1, 9, 0, byte(len(c))}, c...))
			}
			if k != 1 {
				out = append(out, append([]byte{72, k, 9, 0, byte(len(c))}, c...))
			}
		}
	}
	for _, c := range some {
		for _, told := range []int{0, 1, 2, 4, 5, 6, 9, 10, 255, 256, 257, 1280, 2560, 4095, 4096, 4097, 65535, len(c) + 1, len(c) + 4, len(c) + 5, len(c) + 9, len(c) + 256} {
			if told != len(c) {
				out = append(out, headed(9, told, c))
			}
		}
	}
	// the length's bytes the other way round
	out = append(out, append([]byte{72, 1, 9, 5, 0}, "hello"...), append([]byte{72, 1, 9, 0, 1}, make([]byte, 256)...))
	for _, n := range []int{4097, 4098, 4105, 5000, 8192, 65534, 65535, 65536, 65537, 65541, 65536 + 4096, 2 * 65536, 1 << 20} {
		for _, told := range []int{n, 0, 1, 4095, 4096, 4097} {
			out = append(out, headed(9, told, make([]byte, n)))
		}
	}
	return append(out, []byte{1, 72, 9, 0, 0}, []byte{0, 0, 0, 0, 0}, []byte{255, 255, 255, 255, 255}, []byte{73, 2, 9, 0, 1})
}

// TestAllTold is each length that two bytes can tell, of which one alone is right.
func TestAllTold(t *testing.T) {
	for _, n := range []int{0, 1, 5, 256} {
		c := make([]byte, n)
		for told := range 1 << 16 {
			if told == n {
				taken(t, summed(headed(4, told, c)), 4, c)
			} else {
				refused(t, summed(headed(4, told, c)), api.ErrForm)
			}
		}
	}
}

// TestCutAndLengthened has frames that lack bytes at an end, or have more: these are frames no more, also where a right sum is put behind them.
func TestCutAndLengthened(t *testing.T) {
	for _, c := range few() {
		whole := framed(200, c)
		body := whole[:len(whole)-4]
		for n := 1; n < len(c); n++ {
			refused(t, summed(body[:len(body)-n]), api.ErrForm)
		}
		refused(t, summed(append(slices.Clone(body), 0)), api.ErrForm)
		refused(t, summed(whole), api.ErrForm)
		refused(t, append(slices.Clone(whole), 0), api.ErrSum)
		refused(t, append([]byte{0}, whole...), api.ErrSum)
		if len(c) > 0 {
			refused(t, whole[1:], api.ErrSum)
			refused(t, whole[:len(whole)-1], api.ErrSum)
		}
	}
}

// P4.3

// TestMemory writes over all that is answered, and then looks at what was handed in (also at what lies around it), and at what the same call answers once more.
func TestMemory(t *testing.T) {
	marks := bytes.Repeat([]byte{0xa5}, 20)
	for _, b := range append(append(contents(), framed(1, nil), framed(255, []byte("hello")), framed(72, make([]byte, 4096))), append(misshapen(), make([]byte, 4097))...) {
		all := slices.Concat(marks, b, marks)
		kept := slices.Clone(all)
		in := all[20 : 20+len(b)]
		sum := frame.Sum(in)
		first, putE := frame.Put(6, in)
		wantFirst := slices.Clone(first)
		kind, second, takeE := frame.Take(in)
		wantSecond := slices.Clone(second)
		scribble(first)
		scribble(second)
		if !bytes.Equal(all, kept) {
			t.Fatalf("%d bytes, %v: what was handed in has changed", len(b), short(b))
		}
		if again := frame.Sum(in); again != sum {
			t.Errorf("%d bytes, %v: the sum was %x, and is %x", len(b), short(b), sum, again)
		}
		if again, e := frame.Put(6, in); e != putE || !bytes.Equal(again, wantFirst) {
			t.Errorf("%d bytes, %v: framed another way", len(b), short(b))
		}
		if k, again, e := frame.Take(in); k != kind || e != takeE || !bytes.Equal(again, wantSecond) {
			t.Errorf("%d bytes, %v: taken another way", len(b), short(b))
		}
	}
}

func scribble(b []byte) {
	b = b[:cap(b)]
	for i := range b {
		b[i] ^= 0xff
	}
}

// TestMemoryLater writes over what was handed in: what was answered stays.
func TestMemoryLater(t *testing.T) {
	for _, c := range contents() {
		in := slices.Clone(c)
		put, _ := frame.Put(3, in)
		scribble(in)
		if !bytes.Equal(put, framed(3, c)) {
			t.Errorf("%d bytes: the frame changed with its content", len(c))
		}
		_, content, _ := frame.Take(put)
		scribble(put)
		if !bytes.Equal(content, c) {
			t.Errorf("%d bytes: the content changed with its frame", len(c))
		}
	}
}

// P4.4

func TestThereAndBack(t *testing.T) {
	draw := stream(37)
	for n := range 4097 {
		c := drawn(draw, n)
		kind := uint8(draw())
		b, e := frame.Put(kind, c)
		if e != api.OK {
			t.Fatalf("%d bytes: error %d", n, int(e))
		}
		taken(t, b, kind, c)
	}
}

// TestTakenWasFramed goes through bytes that are near frames: those that are taken are framed just so.
func TestTakenWasFramed(t *testing.T) {
	draw := stream(43)
	took := 0
	for range 200000 {
		n := int(draw() % 7)
		b := headed(uint8(draw()), n, drawn(draw, n))
		if draw()%2 == 0 {
			b[draw()%uint64(len(b))] = byte(draw() % 3)
		}
		b = summed(b)
		if draw()%8 == 0 {
			b[draw()%uint64(len(b))] ^= byte(1 << (draw() % 8))
		}
		kind, c, e := frame.Take(b)
		if e != api.OK {
			continue
		}
		took++
		if again, e := frame.Put(kind, c); e != api.OK || !bytes.Equal(again, b) {
			t.Errorf("%v was taken, and framed as %v, error %d", b, again, int(e))
		}
	}
	if took < 1000 || took > 199000 {
		t.Errorf("%d were taken", took)
	}
}

// TestTurnedAlone turns each bit of a frame, one at a time.
func TestTurnedAlone(t *testing.T) {
	for _, c := range few() {
		b := framed(128, c)
		for at := range 8 * len(b) {
			refused(t, turned(b, at, 1), api.ErrSum)
		}
	}
	b := framed(1, drawn(stream(47), 4096))
	for at := 0; at < 8*len(b); at += 3 {
		refused(t, turned(b, at, 1), api.ErrSum)
	}
}

// TestTurnedInARow turns several bits, wherever they begin: also in two parts of the frame.
func TestTurnedInARow(t *testing.T) {
	draw := stream(53)
	for _, c := range [][]byte{nil, {0}, {255}, []byte("hello"), drawn(draw, 30)} {
		b := framed(uint8(draw()), c)
		for at := range 8 * len(b) {
			left := 8*len(b) - at
			for _, p := range patterns(draw) {
				if bits.Len32(p) <= left {
					refused(t, turned(b, at, p), api.ErrSum)
				}
			}
		}
	}
}

// TestTurnedWithin10 has all that can be turned within 10 in a row.
func TestTurnedWithin10(t *testing.T) {
	for _, c := range [][]byte{nil, []byte("seam")} {
		b := framed(2, c)
		for at := range 8*len(b) - 9 {
			for p := uint32(1); p < 1<<10; p++ {
				refused(t, turned(b, at, p), api.ErrSum)
			}
		}
	}
}

// TestTurnedAtTheSeams turns bits of a frame that is as long as can be, where its parts meet and at its ends.
func TestTurnedAtTheSeams(t *testing.T) {
	draw := stream(59)
	b := framed(1, drawn(draw, 4096))
	for _, seam := range []int{0, 3, 5, 4101, 4105} {
		for at := max(8*seam-32, 0); at < min(8*seam+8, 8*len(b)-31); at++ {
			for _, p := range patterns(draw)[:20] {
				refused(t, turned(b, at, p), api.ErrSum)
			}
		}
	}
}

// patterns is which bits are turned: all in a row, two at all distances, and some without a plan.
func patterns(draw func() uint64) []uint32 {
	out := []uint32{0xffffffff, 0x80000001, 0xedb88320, 0x04c11db7, 0xdb710641, 0x55555555, 0xaaaaaaaa}
	for range 20 {
		out = append(out, uint32(draw()>>9)|1)
	}
	for i := 1; i < 32; i++ {
		out = append(out, 1|1<<i, 1<<i|(1<<i-1))
	}
	return out
}

// P1

// TestAnything has bytes of all short lengths, and some of long ones: each call ends, and beside an error there is nothing.
func TestAnything(t *testing.T) {
	draw := stream(61)
	for n := range 600 {
		for range 20 {
			b := drawn(draw, n)
			if draw()%2 == 0 {
				b = summed(b)
			}
			if kind, c, e := frame.Take(b); e != api.OK && (kind != 0 || len(c) > 0) {
				t.Errorf("%v: %d, %v beside error %d", short(b), kind, short(c), int(e))
			}
		}
	}
	refused(t, summed(make([]byte, 1<<22)), api.ErrForm)
	refused(t, make([]byte, 1<<22), api.ErrSum)
}
