package mail_test

import (
	"bytes"
	"math/bits"
	"slices"
	"testing"

	"headcount/api"
	"headcount/mail"
)

func TestExamples(t *testing.T) {
	push := api.Mail{Kind: 1, From: 1, To: 2, Epoch: 3, Number: 4, Give: api.Mass{S: api.Dyad{Limbs: []uint32{6}}, W: api.Dyad{Limbs: []uint32{1}}}}
	written(t, push, framed(1, []byte{1, 2, 0, 3, 0, 0, 4, 0, 0, 0, 1, 0, 0, 0, 6, 0, 0, 0, 1, 0, 0, 0, 1}))
	if n := len(text(push)) - 9; n != 23 {
		t.Errorf("the push has %d bytes", n)
	}
	written(t, api.Mail{Kind: 4, To: 1, About: 2}, framed(4, []byte{0, 1, 0, 0, 0, 0, 0, 0, 0, 2}))
}

// written fails unless m may be, want is its text, and that is read as m.
func written(t *testing.T, m api.Mail, want []byte) {
	t.Helper()
	if e := mail.Check(m); e != api.OK {
		t.Errorf("Check of %v: %d", brief(m), int(e))
	}
	if b, e := mail.Write(m); e != api.OK || !bytes.Equal(b, want) {
		t.Errorf("Write of %v: %v, error %d; asked for %v", brief(m), b, int(e), want)
	}
	taken(t, want, m)
}

// P10.1

func TestCheck(t *testing.T) {
	for _, m := range fit() {
		if e := mail.Check(m); e != api.OK || !mayBe(m) {
			t.Errorf("Check of %v: %d", brief(m), int(e))
		}
	}
	for _, m := range unfit() {
		if e := mail.Check(m); e != api.ErrMail || mayBe(m) {
			t.Errorf("Check of %v, that may not be: %d", brief(m), int(e))
		}
	}
}

// TestCheckOfKinds has mails that would be some kind's: without anything beside their heads, all six kinds may be, and no other one.
func TestCheckOfKinds(t *testing.T) {
	for kind := range 256 {
		for _, h := range heads() {
			h.Kind = uint8(kind)
			if ok := mail.Check(h) == api.OK; ok != (kind >= 1 && kind <= 6) {
				t.Errorf("Check of %v: %v", brief(h), ok)
			}
			for _, x := range extras() {
				m := with(h, x.put)
				if ok := mail.Check(m) == api.OK; ok != slices.Contains(x.kinds, uint8(kind)) {
					t.Errorf("Check of %v: %v", brief(m), ok)
				}
			}
		}
	}
}

// TestCheckOfExtras gives each kind all two parts that there are: it may have them just if it uses both.
func TestCheckOfExtras(t *testing.T) {
	for kind := uint8(1); kind <= 6; kind++ {
		for _, x := range extras() {
			for _, y := range extras() {
				m := with(with(api.Mail{Kind: kind}, x.put), y.put)
				want := slices.Contains(x.kinds, kind) && slices.Contains(y.kinds, kind)
				if ok := mail.Check(m) == api.OK; ok != want || ok != mayBe(m) {
					t.Errorf("Check of %v: %v", brief(m), ok)
				}
			}
		}
	}
}

// TestCheckOfEdges has the edges of all numbers, a part at a time.
func TestCheckOfEdges(t *testing.T) {
	for _, m := range few() {
		for n := -20; n < 20; n++ {
			for _, most := range []int{0, maxNodes, maxEpoch, maxNumber, 1 << 24, 1 << 31, 1 << 32} {
				x := most + n
				for i, change := range []func(m *api.Mail){
					func(m *api.Mail) { m.From = x }, func(m *api.Mail) { m.To = x }, func(m *api.Mail) { m.Epoch = x }, func(m *api.Mail) { m.Number = x }, func(m *api.Mail) { m.About = x },
					func(m *api.Mail) { m.Edge.Min = x }, func(m *api.Mail) { m.Edge.Max = x }, func(m *api.Mail) { m.Edge.Min = -x }, func(m *api.Mail) { m.Edge.Min, m.Edge.Max = x, x },
					func(m *api.Mail) { m.Edge.Min, m.Edge.Max = -x, -x }, func(m *api.Mail) { m.Edge = api.Edge{Has: m.Edge.Has, Min: -maxValue, Max: x} }, func(m *api.Mail) { m.Edge = api.Edge{Has: m.Edge.Has, Min: x, Max: maxValue} },
					func(m *api.Mail) { m.List = []api.Desc{{Id: x}} }, func(m *api.Mail) { m.List = []api.Desc{{}, {Stamp: x}} },
				} {
					got := with(cloned(m), change)
					if ok := mail.Check(got) == api.OK; ok != mayBe(got) {
						t.Errorf("Check of %v, change %d by %d: %v", brief(got), i, x, ok)
					}
				}
			}
		}
	}
}

// TestCheckOfTags has all tags of at most three of four numbers, and as many as there are rooms, and more.
func TestCheckOfTags(t *testing.T) {
	rows := [][]uint32{nil}
	for from := 0; from < len(rows); from++ {
		m := api.Mail{Kind: api.MailTell, Least: rows[from]}
		if ok := mail.Check(m) == api.OK; ok != mayBe(m) {
			t.Errorf("Check of the tags %v: %v", rows[from], ok)
		}
		for _, tag := range []uint32{0, 1, 1 << 31, top} {
			if len(rows[from]) < 4 {
				rows = append(rows, append(slices.Clone(rows[from]), tag))
			}
		}
	}
	for n := range 300 {
		var l []uint32
		for i := range n {
			l = append(l, uint32(3*i))
		}
		if ok := mail.Check(api.Mail{Kind: api.MailTell, Least: l}) == api.OK; ok != (n <= maxLeast) {
			t.Errorf("Check of %d tags: %v", n, ok)
		}
		if ok := mail.Check(api.Mail{Kind: api.MailNews, List: make([]api.Desc, n)}) == api.OK; ok != (n <= maxDescs) {
			t.Errorf("Check of %d descriptors: %v", n, ok)
		}
	}
}

// TestListsOfNone has lists without elements, which are the same as none, where they are not used too.
func TestListsOfNone(t *testing.T) {
	for _, m := range few() {
		bare := m
		for _, a := range dyads(&m) {
			a.Limbs = append([]uint32{}, a.Limbs...)
		}
		m.List = append([]api.Desc{}, m.List...)
		m.Least = append([]uint32{}, m.Least...)
		written(t, m, text(bare))
		if !mail.Same(m, bare) || !mail.Same(bare, m) {
			t.Errorf("Same: %v is not the same with lists that are none", brief(m))
		}
	}
}

func TestSame(t *testing.T) {
	l := append(few(), unfit()[:60]...)
	l = append(l, fit()[:100]...)
	for _, a := range l {
		if !mail.Same(a, a) || !mail.Same(a, cloned(a)) {
			t.Errorf("Same: %v is not the same as itself", brief(a))
		}
		for _, b := range l {
			if want := equal(a, b); mail.Same(a, b) != want {
				t.Errorf("Same of %v and %v: not %v", brief(a), brief(b), want)
			}
		}
	}
}

// TestSameOfOnePart has mails that differ in one part alone, whether they may be or not.
func TestSameOfOnePart(t *testing.T) {
	differ := []func(m *api.Mail){
		func(m *api.Mail) { m.Kind ^= 8 }, func(m *api.Mail) { m.From-- }, func(m *api.Mail) { m.To-- }, func(m *api.Mail) { m.Epoch-- }, func(m *api.Mail) { m.Number-- }, func(m *api.Mail) { m.About-- },
		func(m *api.Mail) { m.Wants = !m.Wants }, func(m *api.Mail) { m.Edge.Has = !m.Edge.Has }, func(m *api.Mail) { m.Edge.Min-- }, func(m *api.Mail) { m.Edge.Max-- },
		func(m *api.Mail) { m.List = append(m.List, api.Desc{}) }, func(m *api.Mail) { m.Least = append(m.Least, 0) },
		func(m *api.Mail) { m.List = append([]api.Desc{{Id: 77}}, m.List...) }, func(m *api.Mail) { m.Least = append([]uint32{77}, m.Least...) },
	}
	for place := range 4 {
		differ = append(differ,
			func(m *api.Mail) { dyads(m)[place].Neg = !dyads(m)[place].Neg },
			func(m *api.Mail) { dyads(m)[place].Exp-- },
			func(m *api.Mail) { dyads(m)[place].Limbs = append(dyads(m)[place].Limbs, 0) })
	}
	for _, m := range append(append(few(), unfit()[:40]...), fit()[:200]...) {
		for i, change := range differ {
			if other := with(cloned(m), change); mail.Same(m, other) || mail.Same(other, m) {
				t.Errorf("Same: %v, of which part %d differs", brief(m), i)
			}
		}
	}
	for _, m := range few() {
		for i := range m.List {
			for _, d := range []api.Desc{{Id: m.List[i].Id + 1, Stamp: m.List[i].Stamp}, {Id: m.List[i].Id, Stamp: m.List[i].Stamp - 1}} {
				if other := with(cloned(m), func(m *api.Mail) { m.List[i] = d }); mail.Same(m, other) {
					t.Errorf("Same: descriptor %d differs", i)
				}
			}
		}
		for i := range m.Least {
			if other := with(cloned(m), func(m *api.Mail) { m.Least[i]++ }); mail.Same(m, other) {
				t.Errorf("Same: tag %d differs", i)
			}
		}
	}
}

func TestTwin(t *testing.T) {
	for _, m := range append(fit(), unfit()...) {
		if got := mail.Twin(m); !equal(got, m) {
			t.Errorf("Twin of %v: %v", brief(m), brief(got))
		}
	}
}

// P10.2

func TestWritten(t *testing.T) {
	for _, m := range fit() {
		written(t, m, text(m))
	}
}

// TestWrittenByHand has a text of each kind, byte by byte.
func TestWrittenByHand(t *testing.T) {
	third := []byte{1, 0, 1, 1, 0, 0, 0, 7}
	for i, want := range [][]byte{
		joined([]byte{1, 2, 0, 3, 0, 0, 4}, third, []byte{0, 1, 44, 2, 0, 0, 0, 1, 0, 0, 0, 2}),
		joined([]byte{2, 1, 1, 44, 1, 17, 112}, third, []byte{0, 0, 0, 1, 0, 0, 0, 5}),
		joined([]byte{7, 0, 1, 44, 1, 17, 112, 1, 17, 111}, third, third),
		{0, 7, 0, 1, 0, 0, 2, 0, 0, 3},
		{4, 0, 0, 0, 0, 0, 9, 1, 3, 3, 127, 255, 255, 255, 3, 0, 0, 0, 0, 5, 0, 0, 0, 6},
		{6, 5, 0, 0, 0, 0, 0, 1, 127, 255, 255, 251, 128, 0, 0, 5, 3, 0, 0, 0, 1, 0, 0, 0, 9, 255, 255, 255, 255},
	} {
		m := few()[i]
		written(t, m, framed(m.Kind, want))
	}
	written(t, api.Mail{Kind: 1}, framed(1, make([]byte, 15)))
	written(t, api.Mail{Kind: 2}, framed(2, make([]byte, 15)))
	written(t, api.Mail{Kind: 3}, framed(3, make([]byte, 18)))
	written(t, api.Mail{Kind: 4}, framed(4, make([]byte, 10)))
	written(t, api.Mail{Kind: 5}, framed(5, make([]byte, 9)))
	written(t, api.Mail{Kind: 6}, framed(6, []byte{0, 0, 0, 0, 0, 0, 0, 0, 128, 0, 0, 0, 128, 0, 0, 0, 0}))
	written(t, api.Mail{Kind: 6, Edge: api.Edge{Has: true, Min: -maxValue, Max: maxValue}}, framed(6, []byte{0, 0, 0, 0, 0, 0, 0, 1, 0, 0, 0, 1, 255, 255, 255, 255, 0}))
}

func TestWriteRefused(t *testing.T) {
	for _, m := range unfit() {
		refusedMail(t, m)
	}
}

// TestNoFrame has bytes that are none: frame's errors are told, and ahead of what their contents are.
func TestNoFrame(t *testing.T) {
	refused(t, nil, api.ErrShort)
	refused(t, []byte{}, api.ErrShort)
	for _, m := range append(few(), api.Mail{}, api.Mail{Kind: 9}) {
		b := text(m)
		for n := range len(b) {
			want := api.ErrSum
			if n < 9 {
				want = api.ErrShort
			}
			refused(t, b[:n], want)
		}
		refused(t, append(slices.Clone(b), 0), api.ErrSum)
		body := b[:len(b)-4]
		for at, x := range []byte{73, 2, m.Kind, body[3] + 1, body[4] + 1} {
			if at != 2 {
				other := slices.Clone(body)
				other[at] = x
				refused(t, summed(other), api.ErrForm)
			}
		}
		refused(t, summed(body[:len(body)-1]), api.ErrForm)
		refused(t, summed(append(slices.Clone(body), 0)), api.ErrForm)
	}
}

// TestCut has contents that end too early, or too late, in good frames.
func TestCut(t *testing.T) {
	for _, m := range fit() {
		c := content(m)
		for n := range len(c) {
			refused(t, framed(m.Kind, c[:n]), api.ErrForm)
		}
		for _, tail := range [][]byte{{0}, {1}, {255}, make([]byte, 4), make([]byte, 9), make([]byte, 100), make([]byte, 3700)} {
			refused(t, framed(m.Kind, append(slices.Clone(c), tail...)), api.ErrForm)
		}
	}
}

// TestOtherKinds has each mail's content as that of each other kind: it is that one's, or none.
func TestOtherKinds(t *testing.T) {
	for _, m := range append(few(), fit()[:120]...) {
		for kind := range 256 {
			if asParsed(t, uint8(kind), content(m)) && (kind < 1 || kind > 6) {
				t.Errorf("the kind %d is one", kind)
			}
		}
	}
	for kind := range 256 {
		for n := range 30 {
			asParsed(t, uint8(kind), make([]byte, n))
		}
	}
}

// TestEachByte has each byte of a text of each kind as all that it can be.
func TestEachByte(t *testing.T) {
	for _, m := range few() {
		good := 0
		for at := range content(m) {
			for x := range 256 {
				c := content(m)
				c[at] = byte(x)
				if asParsed(t, m.Kind, c) {
					good++
				}
			}
		}
		if good < 100 {
			t.Errorf("kind %d: only %d were read", m.Kind, good)
		}
	}
}

// TestFormOfNumbers has numbers that fit their bytes, but no mail.
func TestFormOfNumbers(t *testing.T) {
	for _, m := range few() {
		for _, x := range []int{maxNodes, maxNodes + 1, 128, 255} {
			refused(t, text(with(m, func(m *api.Mail) { m.From = x })), api.ErrForm)
			refused(t, text(with(m, func(m *api.Mail) { m.To = x })), api.ErrForm)
		}
		for _, x := range []int{maxNumber + 1, maxNumber + 2, 1 << 23, 1<<24 - 1} {
			refused(t, text(with(m, func(m *api.Mail) { m.Number = x })), api.ErrForm)
			if m.Kind == api.MailReply || m.Kind == api.MailBusy {
				refused(t, text(with(m, func(m *api.Mail) { m.About = x })), api.ErrForm)
			}
		}
	}
}

func TestFormOfDyads(t *testing.T) {
	zero := []byte{0, 0, 0, 0}
	fields := [][]byte{
		{1, 0, 0, 0}, {2, 0, 0, 0}, {255, 0, 0, 0}, {0, 0, 1, 0}, {0, 4, 1, 0}, {0, 0, 0, 1}, {0, 0, 0, 1, 0, 0, 0}, {0, 0, 0, 1, 0, 0, 0, 0}, {0, 0, 1, 1, 0, 0, 0, 2},
		{0, 4, 1, 1, 0, 0, 0, 1}, {2, 0, 0, 1, 0, 0, 0, 1}, {0, 0, 0, 2, 0, 0, 0, 1, 0, 0, 0, 0}, dyadField(api.Dyad{Limbs: slices.Repeat([]uint32{1}, 41)}), dyadField(api.Dyad{Limbs: slices.Repeat([]uint32{1}, 255)}),
	}
	for _, kind := range []uint8{1, 2, 3} {
		start := make([]byte, 7)
		if kind == 3 {
			start = make([]byte, 10)
		}
		taken(t, framed(kind, joined(start, zero, zero)), api.Mail{Kind: kind})
		for _, f := range fields {
			refused(t, framed(kind, joined(start, f, zero)), api.ErrForm)
			refused(t, framed(kind, joined(start, zero, f)), api.ErrForm)
		}
		refused(t, framed(kind, joined(start, zero)), api.ErrForm)
		refused(t, framed(kind, joined(start, zero, zero, zero)), api.ErrForm)
	}
}

func TestFormOfNews(t *testing.T) {
	start := make([]byte, 7)
	for wants := range 256 {
		b := framed(5, joined(start, []byte{byte(wants), 0}))
		if wants < 2 {
			taken(t, b, api.Mail{Kind: 5, Wants: wants == 1})
		} else {
			refused(t, b, api.ErrForm)
		}
	}
	for told := range 256 {
		for n := range 256 {
			if n != told && (n+told)%5 > 0 {
				continue
			}
			b := framed(5, joined(start, []byte{0, byte(told)}, make([]byte, 5*n)))
			if n == told && n <= maxDescs {
				taken(t, b, api.Mail{Kind: 5, List: make([]api.Desc, n)})
			} else {
				refused(t, b, api.ErrForm)
			}
		}
	}
	for _, f := range [][]byte{{8, 0, 0, 0, 0}, {255, 0, 0, 0, 0}, {0, 128, 0, 0, 0}, {7, 255, 255, 255, 255}, {0, 128, 0, 0, 1}} {
		good := []byte{7, 127, 255, 255, 255}
		refused(t, framed(5, joined(start, []byte{1, 1}, f)), api.ErrForm)
		refused(t, framed(5, joined(start, []byte{1, 2}, good, f)), api.ErrForm)
		refused(t, framed(5, joined(start, []byte{1, 2}, f, good)), api.ErrForm)
		taken(t, framed(5, joined(start, []byte{1, 2}, good, good)), api.Mail{Kind: 5, Wants: true, List: []api.Desc{{Id: 7, Stamp: maxStamp}, {Id: 7, Stamp: maxStamp}}})
	}
}

func TestFormOfTells(t *testing.T) {
	start := make([]byte, 7)
	of := func(has byte, low, high uint32, tags ...uint32) []byte {
		return framed(6, joined(start, []byte{has}, tagField(low), tagField(high), listed(tags, tagField)))
	}
	const zero = 1 << 31
	for _, b := range [][]byte{
		of(0, 0, 0), of(0, zero, 0), of(0, 0, zero), of(0, zero+1, zero), of(0, zero, zero+1), of(0, zero-1, zero), of(0, zero+1, zero+1), of(0, top, top),
		of(1, 0, zero), of(1, 0, 0), of(1, 0, top), of(1, zero+1, zero), of(1, top, 1), of(1, zero, zero-1), of(2, zero, zero), of(255, zero, zero), of(128, zero, zero),
		of(0, zero, zero, 0, 0), of(0, zero, zero, 1, 0), of(1, zero, zero, top, 0), of(1, zero, zero, 1, 2, 2), of(0, zero, zero, 0, 1, 2, 3, 4, 5, 6, 7, 8), of(1, zero, zero, make([]uint32, 255)...),
	} {
		refused(t, b, api.ErrForm)
	}
	taken(t, of(0, zero, zero), api.Mail{Kind: 6})
	taken(t, of(1, zero, zero, 0, top), api.Mail{Kind: 6, Edge: api.Edge{Has: true}, Least: []uint32{0, top}})
	taken(t, of(1, 1, top), api.Mail{Kind: 6, Edge: api.Edge{Has: true, Min: -maxValue, Max: maxValue}})
	taken(t, of(1, 1, 1), api.Mail{Kind: 6, Edge: api.Edge{Has: true, Min: -maxValue, Max: -maxValue}})
	taken(t, of(1, top, top), api.Mail{Kind: 6, Edge: api.Edge{Has: true, Min: maxValue, Max: maxValue}})
	for told := range 256 {
		b := framed(6, joined(start, []byte{0, 128, 0, 0, 0, 128, 0, 0, 0, byte(told)}, tagField(5)))
		if told == 1 {
			taken(t, b, api.Mail{Kind: 6, Least: []uint32{5}})
		} else {
			refused(t, b, api.ErrForm)
		}
	}
}

// P10.3

func TestOnlyRead(t *testing.T) {
	for _, m := range append(append(fit(), unfit()[:200]...), few()...) {
		in := markedMail(m)
		kept := cloned(memory(in))
		mail.Check(in)
		mail.Write(in)
		mail.Twin(in)
		mail.Same(in, in)
		if !equal(memory(in), kept) {
			t.Fatalf("%v: what was handed in has changed", brief(m))
		}
	}
	marks := bytes.Repeat([]byte{0xa5}, 20)
	for _, m := range append(fit(), api.Mail{}, api.Mail{Kind: 9}) {
		all := joined(marks, text(m), marks)
		kept := slices.Clone(all)
		mail.Read(all[20 : len(all)-20])
		if !bytes.Equal(all, kept) {
			t.Fatalf("%v: the text that was handed in has changed", brief(m))
		}
	}
}

// TestMemory writes over each list of an answer: what was handed in, the other lists, and what the same call answers once more stay as they were.
func TestMemory(t *testing.T) {
	for _, m := range append(append(fit(), unfit()[:200]...), few()...) {
		in := cloned(m)
		alone(t, m, func() api.Mail { return mail.Twin(in) })
		if !equal(in, m) {
			t.Errorf("%v changed with its twin", brief(m))
		}
		if !mayBe(m) {
			continue
		}
		b, _ := mail.Write(in)
		scribble(b[:cap(b)])
		if !equal(in, m) {
			t.Errorf("%v changed with its text", brief(m))
		}
		if again, e := mail.Write(in); e != api.OK || !bytes.Equal(again, text(m)) {
			t.Errorf("%v: written another way", brief(m))
		}
		b = text(m)
		alone(t, m, func() api.Mail {
			out, _ := mail.Read(b)
			return out
		})
		if !bytes.Equal(b, text(m)) {
			t.Errorf("the text of %v changed with what was read", brief(m))
		}
	}
}

// alone fails unless each list that ask answers is memory of its own, which has the same as m.
func alone(t *testing.T, m api.Mail, ask func() api.Mail) {
	t.Helper()
	for i := range scribbles(ask()) {
		got := ask()
		want := m
		scribbles(got)[i]()
		switch i {
		case 0:
			got.List, want.List = nil, nil
		case 1:
			got.Least, want.Least = nil, nil
		default:
			*dyads(&got)[i-2], *dyads(&want)[i-2] = api.Dyad{}, api.Dyad{}
		}
		if !equal(got, want) {
			t.Errorf("%v: with its list %d, others changed: %v", brief(m), i, brief(got))
		}
	}
	if got := ask(); !equal(got, m) {
		t.Errorf("%v: answered another way: %v", brief(m), brief(got))
	}
}

// TestMemoryLater writes over what was handed in: what was answered stays.
func TestMemoryLater(t *testing.T) {
	for _, m := range append(fit(), few()...) {
		in := cloned(m)
		twin := mail.Twin(in)
		b, _ := mail.Write(in)
		for _, do := range scribbles(in) {
			do()
		}
		if !equal(twin, m) || !bytes.Equal(b, text(m)) {
			t.Errorf("%v: twin or text changed with it", brief(m))
		}
		read, _ := mail.Read(b)
		scribble(b)
		if !equal(read, m) {
			t.Errorf("%v changed with its text", brief(m))
		}
	}
}

// TestNothingIsKept reads and writes one mail between others.
func TestNothingIsKept(t *testing.T) {
	l := append(few(), fit()[:100]...)
	for i, m := range l {
		mail.Write(l[(i*7+3)%len(l)])
		mail.Read(text(l[(i*5+1)%len(l)])[1:])
		written(t, m, text(m))
	}
}

// P10.4

// TestWhatIsReadWasWritten goes through texts that are spoilt a little, in good frames: those that are read are written just so.
func TestWhatIsReadWasWritten(t *testing.T) {
	draw := stream(47)
	l := fit()
	good := 0
	for range 60000 {
		m := l[draw(len(l))]
		c := content(m)
		for range draw(4) {
			switch at := draw(len(c)); draw(4) {
			case 0:
				c[at] = byte(draw(256))
			case 1:
				c[at] ^= 1 << draw(8)
			case 2:
				c = slices.Delete(c, at, min(at+1+draw(5), len(c)))
			case 3:
				c = slices.Insert(c, at, make([]byte, 1+draw(5))...)
			}
			if len(c) == 0 {
				c = []byte{byte(draw(256))}
			}
		}
		if draw(9) == 0 {
			m.Kind = uint8(draw(8))
		}
		if asParsed(t, m.Kind, c) {
			good++
			read, _ := mail.Read(framed(m.Kind, c))
			if b, e := mail.Write(read); e != api.OK || !bytes.Equal(b, framed(m.Kind, c)) {
				t.Errorf("%v was read, and written as %v, error %d", c, b, int(e))
			}
		}
	}
	if good < 10000 || good > 59000 {
		t.Errorf("%d were read", good)
	}
}

// TestTurned turns bits of texts, within 32 in a row: none of them is a text.
func TestTurned(t *testing.T) {
	draw := stream(53)
	patterns := []uint32{1, 3, 0xffffffff, 0x80000001, 0xedb88320, 0xdb710641, 0x55555555}
	for range 20 {
		patterns = append(patterns, uint32(draw(1<<32))|1)
	}
	for i := 1; i < 32; i++ {
		patterns = append(patterns, 1|1<<i)
	}
	for _, m := range append(few(), api.Mail{Kind: 4}, api.Mail{Kind: 5, List: make([]api.Desc, maxDescs)}) {
		b, e := mail.Write(m)
		if e != api.OK {
			t.Fatalf("Write of %v: %d", brief(m), int(e))
		}
		for at := range 8 * len(b) {
			for _, p := range patterns {
				if bits.Len32(p) <= 8*len(b)-at {
					refused(t, turned(b, at, p), api.ErrSum)
				}
			}
		}
	}
}

// P1, P2

// TestAnything fails by a panic, or by an answer beside an error.
func TestAnything(t *testing.T) {
	draw := stream(59)
	l := append(fit(), unfit()...)
	parts := func() api.Mail { return l[draw(len(l))] }
	for range 30000 {
		m := api.Mail{Kind: uint8(draw(8)), From: parts().From, To: parts().To, Epoch: parts().Epoch, Number: parts().Number}
		for _, take := range []func(from api.Mail){
			func(from api.Mail) { m.About = from.About }, func(from api.Mail) { m.Give = from.Give }, func(from api.Mail) { m.Give.S, m.Give.A = from.Give.W, from.Give.C },
			func(from api.Mail) { m.Wants = from.Wants }, func(from api.Mail) { m.List = from.List }, func(from api.Mail) { m.Edge = from.Edge }, func(from api.Mail) { m.Least = from.Least },
		} {
			if draw(4) == 0 {
				take(parts())
			}
		}
		if mayBe(m) {
			written(t, m, text(m))
		} else {
			refusedMail(t, m)
		}
		if !mail.Same(m, mail.Twin(m)) {
			t.Errorf("the twin of %v is another one", brief(m))
		}
		b := make([]byte, draw(60))
		for i := range b {
			b[i] = byte(draw(1 << draw(9)))
		}
		asParsed(t, uint8(draw(8)), b)
		if got, e := mail.Read(b); e == api.OK || !equal(got, api.Mail{}) {
			t.Errorf("Read of %v: %v, error %d", b, brief(got), int(e))
		}
	}
	refused(t, make([]byte, 1<<22), api.ErrSum)
	refused(t, summed(make([]byte, 1<<22)), api.ErrForm)
	refused(t, framed(5, make([]byte, 4096)), api.ErrForm)
}
