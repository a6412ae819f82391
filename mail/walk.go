package mail

import "headcount/api"

// How many bytes each number has in a text.
const (
	nodeSize   = 1
	epochSize  = 2
	numberSize = 3
	flagSize   = 1
	countSize  = 1
	stampSize  = 4
	valueSize  = 4
	tagSize    = 4
)

// lift is what is added to a value, so that it is not below 0 in a text.
const lift int64 = 1 << 31

// walk goes through a mail's fields: each function is handed what the mail has there, and answers what comes of it.
// A mail is written, read, and asked for what its kind uses by one walk, so that these can't tell of other fields, or in another order.
type walk struct {
	number func(n uint64, size int) uint64
	flag   func(is bool) bool
	dyad   func(a api.Dyad) api.Dyad
}

// used is what m has of what its Kind uses alone. It shares the memory of its dyads with m.
func used(m api.Mail) api.Mail {
	return walk{
		number: func(n uint64, _ int) uint64 { return n },
		flag:   func(is bool) bool { return is },
		dyad:   func(a api.Dyad) api.Dyad { return a },
	}.along(m)
}

// along is what comes of m: its Kind, and what this uses; all else is zero.
func (w walk) along(m api.Mail) api.Mail {
	out := api.Mail{Kind: m.Kind}
	out.From = w.whole(m.From, nodeSize)
	out.To = w.whole(m.To, nodeSize)
	out.Epoch = w.whole(m.Epoch, epochSize)
	out.Number = w.whole(m.Number, numberSize)
	switch m.Kind {
	case api.MailPush:
		out.Give.S = w.dyad(m.Give.S)
		out.Give.W = w.dyad(m.Give.W)
	case api.MailReply:
		out.About = w.whole(m.About, numberSize)
		fallthrough
	case api.MailAsk:
		out.Give.C = w.dyad(m.Give.C)
		out.Give.A = w.dyad(m.Give.A)
	case api.MailBusy:
		out.About = w.whole(m.About, numberSize)
	case api.MailNews:
		out.Wants = w.flag(m.Wants)
		out.List = each(w, m.List, w.desc)
	case api.MailTell:
		out.Edge = w.edge(m.Edge)
		out.Least = each(w, m.Least, w.tag)
	}
	return out
}

// each is what comes of how many l has, and then of each one. When a mail is read, l has none, and there will be as many as its text tells.
func each[T any](w walk, l []T, do func(x T) T) []T {
	var out []T
	for i := range w.number(uint64(len(l)), countSize) {
		var x T
		if i < uint64(len(l)) {
			x = l[i]
		}
		out = append(out, do(x))
	}
	return out
}

func (w walk) whole(n, size int) int { return int(w.number(uint64(n), size)) }

func (w walk) value(x int) int {
	return int(int64(w.number(uint64(int64(x)+lift), valueSize)) - lift)
}

func (w walk) desc(d api.Desc) api.Desc {
	return api.Desc{Id: w.whole(d.Id, nodeSize), Stamp: w.whole(d.Stamp, stampSize)}
}

func (w walk) edge(edge api.Edge) api.Edge {
	return api.Edge{Has: w.flag(edge.Has), Min: w.value(edge.Min), Max: w.value(edge.Max)}
}

func (w walk) tag(x uint32) uint32 { return uint32(w.number(uint64(x), tagSize)) }
