package mail

import (
	"headcount/api"
	"headcount/field"
	"headcount/frame"
)

// Write is the text of m.
func Write(m api.Mail) ([]byte, api.Errno) {
	if e := Check(m); e != api.OK {
		return nil, e
	}
	var w writer
	walk{w.number, w.flag, w.dyad}.along(m)
	return frame.Put(m.Kind, w.content)
}

// Read is the mail whose text b is.
func Read(b []byte) (api.Mail, api.Errno) {
	kind, content, e := frame.Take(b)
	if e != api.OK {
		return api.Mail{}, e
	}
	r := reader{Rest: api.Rest{Bytes: content}}
	m := walk{r.number, r.flag, r.dyad}.along(api.Mail{Kind: kind})
	if r.fault || !field.Done(r.Rest) || Check(m) != api.OK {
		return api.Mail{}, api.ErrForm
	}
	return m, api.OK
}

// writer is a content under way. What a mail that may be has fits its fields, so that none of them is refused.
type writer struct {
	content []byte
}

func (w *writer) number(n uint64, size int) uint64 {
	w.content, _ = field.PutNumber(w.content, n, size)
	return n
}

func (w *writer) flag(is bool) bool {
	n := uint64(0)
	if is {
		n = 1
	}
	w.number(n, flagSize)
	return is
}

func (w *writer) dyad(a api.Dyad) api.Dyad {
	w.content, _ = field.PutDyad(w.content, a)
	return a
}

// reader is what is read; it goes on by what is taken. What comes behind a fault counts for nothing.
type reader struct {
	api.Rest
	fault bool
}

func (r *reader) number(_ uint64, size int) uint64 {
	rest, n, e := field.Number(r.Rest, size)
	r.goOn(rest, e)
	return n
}

func (r *reader) flag(bool) bool {
	n := r.number(0, flagSize)
	if n > 1 {
		r.fault = true
	}
	return n == 1
}

func (r *reader) dyad(api.Dyad) api.Dyad {
	rest, a, e := field.Dyad(r.Rest)
	r.goOn(rest, e)
	return a
}

func (r *reader) goOn(rest api.Rest, e api.Errno) {
	if e != api.OK {
		r.fault = true
	}
	r.Rest = rest
}
