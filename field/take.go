package field

import (
	"headcount/api"
	"headcount/dyad"
)

// Number takes a number's field of a size.
func Number(r api.Rest, size int) (out api.Rest, n uint64, e api.Errno) {
	if !mayRead(r) {
		return api.Rest{}, 0, api.ErrBad
	}
	if !maySize(size) {
		return api.Rest{}, 0, api.ErrArg
	}
	in := reader{r}
	n, ok := in.next(size)
	if !ok {
		return api.Rest{}, 0, api.ErrShort
	}
	return in.Rest, n, api.OK
}

// Dyad takes a dyad's field.
func Dyad(r api.Rest) (out api.Rest, a api.Dyad, e api.Errno) {
	if !mayRead(r) {
		return api.Rest{}, api.Dyad{}, api.ErrBad
	}
	in := reader{r}
	a, e = takeDyad(in.next)
	if e != api.OK {
		return api.Rest{}, api.Dyad{}, e
	}
	return in.Rest, a, api.OK
}

// Done tells whether all bytes were taken.
func Done(r api.Rest) bool { return mayRead(r) && r.At == len(r.Bytes) }

// mayRead tells whether r may be.
func mayRead(r api.Rest) bool { return r.At >= 0 && r.At <= len(r.Bytes) }

// reader is what is read; it goes on by what is taken.
type reader struct {
	api.Rest
}

// next takes a number of size bytes, if so many are left.
func (r *reader) next(size int) (n uint64, ok bool) {
	if size > len(r.Bytes)-r.At {
		return 0, false
	}
	for range size {
		n = n<<digitBits | uint64(r.Bytes[r.At])
		r.At++
	}
	return n, true
}

// takeDyad is the dyad whose parts are taken by next.
// All of them are taken before one is asked whether it may be: a field that ends too early is told as that, whatever its parts are.
func takeDyad(next func(size int) (uint64, bool)) (api.Dyad, api.Errno) {
	var sign, exp, count, limb uint64
	var limbs []uint32
	var ok bool
	if sign, ok = next(signSize); !ok {
		goto short
	}
	if exp, ok = next(expSize); !ok {
		goto short
	}
	if count, ok = next(countSize); !ok {
		goto short
	}
	for range count {
		if limb, ok = next(limbSize); !ok {
			goto short
		}
		limbs = append(limbs, uint32(limb))
	}
	return formed(sign, api.Dyad{Limbs: limbs, Exp: int(exp)})

short:
	return api.Dyad{}, api.ErrShort
}

// formed is a with its sign, if that is one, and a dyad comes of it that may be.
func formed(sign uint64, a api.Dyad) (api.Dyad, api.Errno) {
	a.Neg = sign == below
	if !a.Neg && sign != notBelow || dyad.Check(a) != api.OK {
		return api.Dyad{}, api.ErrForm
	}
	return a, api.OK
}
