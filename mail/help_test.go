package mail_test

import (
	"bytes"
	"encoding/binary"
	"hash/crc32"
	"math"
	"reflect"
	"slices"
	"testing"

	"headcount/api"
	"headcount/mail"
)

const (
	top       = math.MaxUint32
	maxNodes  = 8
	maxDescs  = 64
	maxLeast  = 8
	maxStamp  = 2147483647
	maxValue  = 2147483647
	maxEpoch  = 65535
	maxNumber = 1048575
)

// summed is b with its right sum behind it, whatever b is.
func summed(b []byte) []byte {
	return binary.LittleEndian.AppendUint32(slices.Clone(b), crc32.ChecksumIEEE(b))
}

// framed is a frame, as its chapter tells of it.
func framed(kind uint8, content []byte) []byte {
	return summed(append([]byte{72, 1, kind, byte(len(content) >> 8), byte(len(content))}, content...))
}

// digits is n in size bytes, the highest first.
func digits(n uint64, size int) []byte {
	return binary.BigEndian.AppendUint64(nil, n)[8-size:]
}

// joined is all of parts, in memory of its own.
func joined(parts ...[]byte) []byte { return slices.Concat(parts...) }

// dyadField is the field of a.
func dyadField(a api.Dyad) []byte {
	out := joined([]byte{0}, digits(uint64(a.Exp), 2), []byte{byte(len(a.Limbs))})
	if a.Neg {
		out[0] = 1
	}
	for _, x := range a.Limbs {
		out = append(out, digits(uint64(x), 4)...)
	}
	return out
}

func head(m api.Mail) []byte {
	return joined([]byte{byte(m.From), byte(m.To)}, digits(uint64(m.Epoch), 2), digits(uint64(m.Number), 3))
}

func flagByte(is bool) []byte {
	if is {
		return []byte{1}
	}
	return []byte{0}
}

// listed is how many there are, and each one's field.
func listed[T any](l []T, field func(x T) []byte) []byte {
	out := []byte{byte(len(l))}
	for _, x := range l {
		out = append(out, field(x)...)
	}
	return out
}

func descField(d api.Desc) []byte { return joined([]byte{byte(d.Id)}, digits(uint64(d.Stamp), 4)) }
func tagField(x uint32) []byte    { return digits(uint64(x), 4) }
func valueField(x int) []byte     { return digits(uint64(x+1<<31), 4) }

// content is that of m's text, as the chapter tells of it, kind by kind. It does not ask whether m may be.
func content(m api.Mail) []byte {
	about := digits(uint64(m.About), 3)
	switch m.Kind {
	case api.MailPush:
		return joined(head(m), dyadField(m.Give.S), dyadField(m.Give.W))
	case api.MailAsk:
		return joined(head(m), dyadField(m.Give.C), dyadField(m.Give.A))
	case api.MailReply:
		return joined(head(m), about, dyadField(m.Give.C), dyadField(m.Give.A))
	case api.MailBusy:
		return joined(head(m), about)
	case api.MailNews:
		return joined(head(m), flagByte(m.Wants), listed(m.List, descField))
	case api.MailTell:
		return joined(head(m), flagByte(m.Edge.Has), valueField(m.Edge.Min), valueField(m.Edge.Max), listed(m.Least, tagField))
	}
	return head(m)
}

func text(m api.Mail) []byte { return framed(m.Kind, content(m)) }

// desk takes a content to pieces, and tells whether there was enough of it. It does not lean on field.
type desk struct {
	left  []byte
	short bool
}

func (d *desk) number(size int) int {
	if size > len(d.left) {
		d.left, d.short = nil, true
		return 0
	}
	n := 0
	for _, x := range d.left[:size] {
		n = n*256 + int(x)
	}
	d.left = d.left[size:]
	return n
}

// flag tells 1 from 0; what is neither counts as too short, as both are refused alike.
func (d *desk) flag() bool {
	n := d.number(1)
	d.short = d.short || n > 1
	return n == 1
}

func (d *desk) dyad() api.Dyad {
	a := api.Dyad{Neg: d.flag(), Exp: d.number(2)}
	for range d.number(1) {
		a.Limbs = append(a.Limbs, uint32(d.number(4)))
	}
	return a
}

// parsed is the mail of a kind and a content, and whether that is the content of a mail that may be.
func parsed(kind uint8, c []byte) (api.Mail, bool) {
	d := desk{left: c}
	m := api.Mail{Kind: kind, From: d.number(1), To: d.number(1), Epoch: d.number(2), Number: d.number(3)}
	switch kind {
	case api.MailPush:
		m.Give.S, m.Give.W = d.dyad(), d.dyad()
	case api.MailAsk:
		m.Give.C, m.Give.A = d.dyad(), d.dyad()
	case api.MailReply:
		m.About, m.Give.C, m.Give.A = d.number(3), d.dyad(), d.dyad()
	case api.MailBusy:
		m.About = d.number(3)
	case api.MailNews:
		m.Wants = d.flag()
		for range d.number(1) {
			m.List = append(m.List, api.Desc{Id: d.number(1), Stamp: d.number(4)})
		}
	case api.MailTell:
		m.Edge = api.Edge{Has: d.flag(), Min: d.number(4) - 1<<31, Max: d.number(4) - 1<<31}
		for range d.number(1) {
			m.Least = append(m.Least, uint32(d.number(4)))
		}
	}
	if d.short || len(d.left) > 0 || !mayBe(m) {
		return api.Mail{}, false
	}
	return m, true
}

// dyadMayBe does not lean on dyad.Check.
func dyadMayBe(a api.Dyad) bool {
	n := len(a.Limbs)
	if n == 0 {
		return !a.Neg && a.Exp == 0
	}
	return n <= 40 && a.Limbs[n-1] != 0 && a.Exp >= 0 && a.Exp <= 1024 && (a.Exp == 0 || a.Limbs[0]&1 == 1)
}

// isZero is whether there is nothing in a; a list without elements is none.
func isZero(a api.Dyad) bool { return !a.Neg && len(a.Limbs) == 0 && a.Exp == 0 }

// mayBe asks for what the document names, kind by kind and part by part.
func mayBe(m api.Mail) bool {
	from0 := func(n, most int) bool { return 0 <= n && n <= most }
	if !from0(m.From, 7) || !from0(m.To, 7) || !from0(m.Epoch, 65535) || !from0(m.Number, 1048575) {
		return false
	}
	sums := isZero(m.Give.S) && isZero(m.Give.W)
	means := isZero(m.Give.C) && isZero(m.Give.A)
	about := m.About == 0
	news := !m.Wants && len(m.List) == 0
	tell := !m.Edge.Has && m.Edge.Min == 0 && m.Edge.Max == 0 && len(m.Least) == 0
	switch m.Kind {
	case 1:
		return about && means && news && tell && dyadMayBe(m.Give.S) && dyadMayBe(m.Give.W)
	case 2:
		return about && sums && news && tell && dyadMayBe(m.Give.C) && dyadMayBe(m.Give.A)
	case 3:
		return from0(m.About, 1048575) && sums && news && tell && dyadMayBe(m.Give.C) && dyadMayBe(m.Give.A)
	case 4:
		return from0(m.About, 1048575) && sums && means && news && tell
	case 5:
		return about && sums && means && tell && descsMayBe(m.List)
	case 6:
		return about && sums && means && news && edgeMayBe(m.Edge) && tagsMayBe(m.Least)
	}
	return false
}

func descsMayBe(l []api.Desc) bool {
	for _, d := range l {
		if d.Id < 0 || d.Id > 7 || d.Stamp < 0 || d.Stamp > 2147483647 {
			return false
		}
	}
	return len(l) <= 64
}

func edgeMayBe(a api.Edge) bool {
	if !a.Has {
		return a.Min == 0 && a.Max == 0
	}
	return a.Min >= -2147483647 && a.Max <= 2147483647 && a.Min <= a.Max
}

func tagsMayBe(l []uint32) bool {
	return len(l) <= 8 && slices.Equal(slices.Compact(slices.Sorted(slices.Values(l))), l)
}

// plain is m, its lists without elements being none.
func plain(m api.Mail) api.Mail {
	for _, a := range dyads(&m) {
		if len(a.Limbs) == 0 {
			a.Limbs = nil
		}
	}
	if len(m.List) == 0 {
		m.List = nil
	}
	if len(m.Least) == 0 {
		m.Least = nil
	}
	return m
}

// equal does not lean on mail.Same.
func equal(a, b api.Mail) bool { return reflect.DeepEqual(plain(a), plain(b)) }

func dyads(m *api.Mail) []*api.Dyad {
	return []*api.Dyad{&m.Give.S, &m.Give.W, &m.Give.C, &m.Give.A}
}

// cloned is m in memory of its own; it does not lean on mail.Twin.
func cloned(m api.Mail) api.Mail {
	for _, a := range dyads(&m) {
		a.Limbs = slices.Clone(a.Limbs)
	}
	m.List = slices.Clone(m.List)
	m.Least = slices.Clone(m.Least)
	return m
}

// stream is numbers that look as if drawn, the same ones each time.
func stream(x uint64) func(below int) int {
	return func(below int) int {
		x ^= x << 13
		x ^= x >> 7
		x ^= x << 17
		return int(x % uint64(below))
	}
}

// with is m, changed.
func with(m api.Mail, change func(m *api.Mail)) api.Mail {
	change(&m)
	return m
}

// fitDyads is dyads that may be, of both signs, with the edges of Limbs and Exp.
func fitDyads() []api.Dyad {
	out := []api.Dyad{{}, {Limbs: []uint32{}}}
	for _, neg := range []bool{false, true} {
		out = append(out,
			api.Dyad{Neg: neg, Limbs: []uint32{1}}, api.Dyad{Neg: neg, Limbs: []uint32{6}}, api.Dyad{Neg: neg, Limbs: []uint32{0x01020304, 0, 5}},
			api.Dyad{Neg: neg, Limbs: []uint32{3}, Exp: 2}, api.Dyad{Neg: neg, Limbs: []uint32{1}, Exp: 1024}, api.Dyad{Neg: neg, Limbs: []uint32{top, 7}, Exp: 258},
			api.Dyad{Neg: neg, Limbs: slices.Repeat([]uint32{top}, 40)}, api.Dyad{Neg: neg, Limbs: slices.Repeat([]uint32{top}, 40), Exp: 1024})
	}
	return out
}

// unfitDyads is dyads that may not be.
func unfitDyads() []api.Dyad {
	return []api.Dyad{
		{Neg: true}, {Exp: 1}, {Exp: -1}, {Limbs: []uint32{0}}, {Limbs: []uint32{1, 0}}, {Limbs: []uint32{2}, Exp: 1}, {Limbs: []uint32{0, 1}, Exp: 3},
		{Limbs: []uint32{1}, Exp: 1025}, {Limbs: []uint32{1}, Exp: -1}, {Limbs: []uint32{1}, Exp: 65537}, {Limbs: []uint32{1}, Exp: math.MaxInt}, {Limbs: []uint32{1}, Exp: math.MinInt},
		{Limbs: slices.Repeat([]uint32{1}, 41)}, {Limbs: slices.Repeat([]uint32{1}, 256)}, {Limbs: slices.Repeat([]uint32{1}, 296)}, {Neg: true, Limbs: []uint32{0}},
	}
}

// heads is mails of no kind, whose From, To, Epoch and Number may be: the edges of each, and some without a plan.
func heads() []api.Mail {
	out := []api.Mail{
		{}, {From: 7, To: 7, Epoch: maxEpoch, Number: maxNumber}, {From: 1, To: 2, Epoch: 3, Number: 4}, {From: 7}, {To: 7}, {Epoch: maxEpoch}, {Number: maxNumber},
		{From: 3, To: 3, Epoch: 255, Number: 255}, {To: 1, Epoch: 256, Number: 256}, {From: 5, To: 6, Epoch: 0x0102, Number: 0x0a0b0c}, {Epoch: 257, Number: 65535}, {Epoch: 65280, Number: 65536},
	}
	draw := stream(3)
	for range 20 {
		out = append(out, api.Mail{From: draw(8), To: draw(8), Epoch: draw(maxEpoch + 1), Number: draw(maxNumber + 1)})
	}
	return out
}

// uses is what a mail of each kind may have beside its head: the edges of each part, and some without a plan.
func uses() []api.Mail {
	var out []api.Mail
	l := fitDyads()
	for i, a := range l {
		b := l[(7*i+3)%len(l)]
		about := []int{0, 1, 255, 256, 65535, 65536, 0x0b0c0d, maxNumber}[i%8]
		for _, pair := range [][2]api.Dyad{{a, b}, {b, a}, {a, a}} {
			out = append(out,
				api.Mail{Kind: api.MailPush, Give: api.Mass{S: pair[0], W: pair[1]}},
				api.Mail{Kind: api.MailAsk, Give: api.Mass{C: pair[0], A: pair[1]}},
				api.Mail{Kind: api.MailReply, About: about, Give: api.Mass{C: pair[0], A: pair[1]}})
		}
		out = append(out, api.Mail{Kind: api.MailBusy, About: about})
	}
	for i, l := range fitDescs() {
		out = append(out, api.Mail{Kind: api.MailNews, List: l, Wants: i%2 == 0}, api.Mail{Kind: api.MailNews, List: l, Wants: i%2 == 1})
	}
	tags := fitTags()
	for i, edge := range fitEdges() {
		out = append(out, api.Mail{Kind: api.MailTell, Edge: edge, Least: tags[i%len(tags)]}, api.Mail{Kind: api.MailTell, Edge: edge})
	}
	for _, l := range tags {
		out = append(out, api.Mail{Kind: api.MailTell, Least: l})
	}
	return out
}

func fitDescs() [][]api.Desc {
	out := [][]api.Desc{nil, {}, {{}}, {{Id: 7, Stamp: maxStamp}}, {{Id: 3, Stamp: maxStamp}, {Id: 3}}, {{Id: 1, Stamp: 0x01020304}, {Id: 1, Stamp: 0x01020304}}, make([]api.Desc, maxDescs)}
	draw := stream(5)
	for _, n := range []int{1, 2, 3, 6, 7, 63, 64} {
		l := make([]api.Desc, n)
		for i := range l {
			l[i] = api.Desc{Id: draw(maxNodes), Stamp: draw(maxStamp + 1)}
		}
		out = append(out, l)
	}
	return out
}

func fitEdges() []api.Edge {
	out := []api.Edge{{}}
	values := []int{-maxValue, -maxValue + 1, -1 << 30, -65536, -256, -5, -1, 0, 1, 5, 255, 65536, 0x01020304, 1 << 30, maxValue - 1, maxValue}
	for i, x := range values {
		for _, y := range values[i:] {
			out = append(out, api.Edge{Has: true, Min: x, Max: y})
		}
	}
	return out
}

func fitTags() [][]uint32 {
	out := [][]uint32{nil, {}, {0}, {top}, {0, 1}, {1, 9}, {0, top}, {top - 1, top}, {1 << 31, 1<<31 + 1}, {0, 1, 2, 3, 4, 5, 6, 7}, {0, 1 << 8, 1 << 16, 1 << 24, 0x01020304, 1 << 31, top - 1, top}}
	draw := stream(9)
	for n := range maxLeast + 1 {
		l := make([]uint32, n)
		for i := range l {
			l[i] = uint32(draw(1 << 32))
		}
		slices.Sort(l)
		out = append(out, slices.Compact(l))
	}
	return out
}

// fit is mails that may be: each head with some uses, and all uses with some head.
func fit() []api.Mail {
	var out []api.Mail
	hs, us := heads(), uses()
	add := func(h, u api.Mail) {
		u.From, u.To, u.Epoch, u.Number = h.From, h.To, h.Epoch, h.Number
		out = append(out, u)
	}
	for i, u := range us {
		add(hs[i%len(hs)], u)
	}
	for i, h := range hs {
		for k := range 7 {
			add(h, us[(37*i+11*k)%len(us)])
		}
	}
	return out
}

// few is a mail of each kind, with all that it can use.
func few() []api.Mail {
	third := api.Dyad{Neg: true, Limbs: []uint32{7}, Exp: 1}
	return []api.Mail{
		{Kind: api.MailPush, From: 1, To: 2, Epoch: 3, Number: 4, Give: api.Mass{S: third, W: api.Dyad{Limbs: []uint32{1, 2}, Exp: 300}}},
		{Kind: api.MailAsk, From: 2, To: 1, Epoch: 300, Number: 70000, Give: api.Mass{C: third, A: api.Dyad{Limbs: []uint32{5}}}},
		{Kind: api.MailReply, From: 7, Epoch: 300, Number: 70000, About: 69999, Give: api.Mass{C: third, A: third}},
		{Kind: api.MailBusy, To: 7, Epoch: 1, Number: 2, About: 3},
		{Kind: api.MailNews, From: 4, Number: 9, Wants: true, List: []api.Desc{{Id: 3, Stamp: maxStamp}, {Id: 3}, {Id: 5, Stamp: 6}}},
		{Kind: api.MailTell, From: 6, To: 5, Edge: api.Edge{Has: true, Min: -5, Max: 5}, Least: []uint32{1, 9, top}},
	}
}

// beyond is numbers that are not from 0 to most, also such as would be in fewer digits.
func beyond(most int) []int {
	return []int{-1, -2, -256, -most, -most - 1, most + 1, most + 2, most + 256, 2*most + 2, 1 << 24, 1<<24 + 1, 1 << 32, 1<<32 + 1, math.MaxInt32 + 1, math.MaxInt, math.MinInt, math.MinInt + 1, math.MinInt32}
}

// changes is functions that turn a mail into one that may not be, whatever its kind; where that uses the part that changes, by one thing alone.
func changes() []func(m *api.Mail) {
	var out []func(m *api.Mail)
	add := func(change func(m *api.Mail)) { out = append(out, change) }
	for _, n := range beyond(maxNodes - 1) {
		add(func(m *api.Mail) { m.From = n })
		add(func(m *api.Mail) { m.To = n })
		add(func(m *api.Mail) { m.List = append(slices.Clone(m.List), api.Desc{Id: n}) })
		add(func(m *api.Mail) { m.List = append([]api.Desc{{Id: n}}, m.List...) })
	}
	for _, n := range beyond(maxEpoch) {
		add(func(m *api.Mail) { m.Epoch = n })
	}
	for _, n := range beyond(maxNumber) {
		add(func(m *api.Mail) { m.Number = n })
		add(func(m *api.Mail) { m.About = n })
	}
	for _, n := range []int{-1, math.MinInt, maxStamp + 1, 1 << 32, 1<<32 + 1, math.MaxInt} {
		add(func(m *api.Mail) { m.List = append([]api.Desc{{Stamp: n}}, m.List...) })
	}
	add(func(m *api.Mail) { m.List = make([]api.Desc, maxDescs+1) })
	add(func(m *api.Mail) { m.List = make([]api.Desc, 256) })
	add(func(m *api.Mail) { m.List = make([]api.Desc, 1<<16) })
	for _, a := range unfitDyads() {
		for place := range 4 {
			add(func(m *api.Mail) { *dyads(m)[place] = a })
		}
	}
	for _, edge := range unfitEdges() {
		add(func(m *api.Mail) { m.Edge = edge })
	}
	for _, l := range unfitTags() {
		add(func(m *api.Mail) { m.Least = l })
	}
	return out
}

func unfitEdges() []api.Edge {
	return []api.Edge{
		{Min: 1}, {Max: 1}, {Min: -1}, {Max: -1}, {Min: 3, Max: 3}, {Min: -maxValue - 1, Max: -maxValue - 1}, {Min: math.MinInt}, {Max: math.MaxInt},
		{Has: true, Min: 1}, {Has: true, Max: -1}, {Has: true, Min: 6, Max: 5}, {Has: true, Min: maxValue, Max: -maxValue},
		{Has: true, Min: -maxValue - 1}, {Has: true, Min: -maxValue - 2, Max: 1}, {Has: true, Max: maxValue + 1}, {Has: true, Min: -1 << 32}, {Has: true, Max: 1 << 32},
		{Has: true, Min: math.MinInt}, {Has: true, Max: math.MaxInt}, {Has: true, Min: math.MinInt, Max: math.MaxInt}, {Has: true, Min: math.MaxInt, Max: math.MinInt},
		{Has: true, Min: -maxValue - 1, Max: -maxValue - 1}, {Has: true, Min: maxValue + 1, Max: maxValue + 1},
	}
}

func unfitTags() [][]uint32 {
	return [][]uint32{
		{0, 0}, {1, 0}, {9, 9}, {top, 0}, {top, top}, {1, 2, 2}, {1, 1, 2}, {1, 3, 2}, {2, 1, 3}, {0, 1, 2, 3, 4, 5, 6, 6}, {1 << 31, 1<<31 - 1},
		{0, 1, 2, 3, 4, 5, 6, 7, 8}, {0, 1, 2, 3, 4, 5, 6, 7, 7}, make([]uint32, 8), make([]uint32, 9), make([]uint32, 256), make([]uint32, 1<<16), {8, 7, 6, 5, 4, 3, 2, 1},
	}
}

// extras is a part each that may be, by itself, and is not zero, and which kinds use it.
func extras() []extra {
	one := api.Dyad{Limbs: []uint32{1}}
	return []extra{
		{[]uint8{3, 4}, func(m *api.Mail) { m.About = 1 }},
		{[]uint8{1}, func(m *api.Mail) { m.Give.S = one }},
		{[]uint8{1}, func(m *api.Mail) { m.Give.W = one }},
		{[]uint8{2, 3}, func(m *api.Mail) { m.Give.C = one }},
		{[]uint8{2, 3}, func(m *api.Mail) { m.Give.A = one }},
		{[]uint8{5}, func(m *api.Mail) { m.Wants = true }},
		{[]uint8{5}, func(m *api.Mail) { m.List = make([]api.Desc, 1) }},
		{[]uint8{6}, func(m *api.Mail) { m.Edge = api.Edge{Has: true, Min: -1, Max: 1} }},
		{[]uint8{6}, func(m *api.Mail) { m.Edge = api.Edge{Has: true} }},
		{[]uint8{6}, func(m *api.Mail) { m.Least = make([]uint32, 1) }},
	}
}

type extra struct {
	kinds []uint8
	put   func(m *api.Mail)
}

// unfit is mails that may not be.
func unfit() []api.Mail {
	out := []api.Mail{{}, {Kind: 7}, {Kind: 255}}
	for _, m := range few() {
		for _, change := range changes() {
			out = append(out, with(m, change))
		}
		for _, x := range extras() {
			if !slices.Contains(x.kinds, m.Kind) {
				out = append(out, with(m, x.put))
			}
		}
	}
	return out
}

// brief is m with the first ones of its lists, which is enough to tell of it.
func brief(m api.Mail) api.Mail {
	for _, a := range dyads(&m) {
		a.Limbs = a.Limbs[:min(len(a.Limbs), 3)]
	}
	m.List = m.List[:min(len(m.List), 3)]
	m.Least = m.Least[:min(len(m.Least), 9)]
	return m
}

// refused fails unless b is refused by want, with nothing beside it.
func refused(t *testing.T, b []byte, want api.Errno) {
	t.Helper()
	if m, e := mail.Read(b); e != want || !equal(m, api.Mail{}) {
		t.Errorf("Read of %v: %v, error %d; asked for error %d", b[:min(len(b), 60)], brief(m), int(e), int(want))
	}
}

// taken fails unless b is read as want.
func taken(t *testing.T, b []byte, want api.Mail) {
	t.Helper()
	if m, e := mail.Read(b); e != api.OK || !equal(m, want) {
		t.Errorf("Read of %v: %v, error %d; asked for %v", b[:min(len(b), 60)], brief(m), int(e), brief(want))
	}
}

// asParsed fails unless the content of a kind, in a frame, is read as the chapter tells.
func asParsed(t *testing.T, kind uint8, c []byte) bool {
	t.Helper()
	m, ok := parsed(kind, c)
	if !ok {
		refused(t, framed(kind, c), api.ErrForm)
		return false
	}
	taken(t, framed(kind, c), m)
	return true
}

// refusedMail fails unless m is refused by Check and Write, with nothing beside it.
func refusedMail(t *testing.T, m api.Mail) {
	t.Helper()
	if e := mail.Check(m); e != api.ErrMail {
		t.Errorf("Check of %v: %d", brief(m), int(e))
	}
	if b, e := mail.Write(m); e != api.ErrMail || len(b) > 0 {
		t.Errorf("Write of %v: %v, error %d", brief(m), b, int(e))
	}
}

// turned is b with those bits turned that pattern has, from the bit at on. Bits are in the order in which the sum has them: a byte's lowest one is its first.
func turned(b []byte, at int, pattern uint32) []byte {
	out := bytes.Clone(b)
	for i := range 32 {
		if pattern>>i&1 == 1 {
			out[(at+i)/8] ^= 1 << ((at + i) % 8)
		}
	}
	return out
}

// marked is l in memory of its own, with the marks behind its end.
func marked[T any](l []T, marks ...T) []T { return append(slices.Clone(l), marks...)[:len(l)] }

// markedMail is m with marks behind the ends of its lists.
func markedMail(m api.Mail) api.Mail {
	for _, a := range dyads(&m) {
		a.Limbs = marked(a.Limbs, 7, 8, 9)
	}
	m.List = marked(m.List, api.Desc{Id: -1, Stamp: -1}, api.Desc{Id: 3, Stamp: 3})
	m.Least = marked(m.Least, 5, top)
	return m
}

// memory is m with its lists as long as their memory is.
func memory(m api.Mail) api.Mail {
	for _, a := range dyads(&m) {
		a.Limbs = a.Limbs[:cap(a.Limbs)]
	}
	m.List = m.List[:cap(m.List)]
	m.Least = m.Least[:cap(m.Least)]
	return m
}

// scribbles is functions that write over one list of m each, over all its memory.
func scribbles(m api.Mail) []func() {
	m = memory(m)
	out := []func(){
		func() {
			for i := range m.List {
				m.List[i] = api.Desc{Id: ^m.List[i].Id, Stamp: ^m.List[i].Stamp}
			}
		},
		func() { scribble(m.Least) },
	}
	for _, a := range dyads(&m) {
		out = append(out, func() { scribble(a.Limbs) })
	}
	return out
}

func scribble[T uint8 | uint32](l []T) {
	for i := range l {
		l[i] = ^l[i]
	}
}
