package ether

import (
	"bytes"

	"headcount/api"
)

// list is copies that may be.
type list []api.Copy

// find is the copy of the place i, in new memory.
func (l list) find(i int) (api.Copy, api.Errno) {
	if i < 0 || i >= len(l) {
		return api.Copy{}, api.ErrArg
	}
	return twin(l[i]), api.OK
}

// refusal stands for copies that may not be: whatever place is asked for, it answers why.
type refusal api.Errno

func (r refusal) find(int) (api.Copy, api.Errno) {
	return api.Copy{}, api.Errno(r)
}

// finder is how the copy of a place is found in l, so that no place is asked for ahead of Check.
func finder(l []api.Copy) func(i int) (api.Copy, api.Errno) {
	if e := Check(l); e != api.OK {
		return refusal(e).find
	}
	return list(l).find
}

// put is l and c behind them, while there is room.
func put(l []api.Copy, c api.Copy) ([]api.Copy, api.Errno) {
	if len(l) == api.MaxFly {
		return nil, api.ErrFull
	}
	return together(l, []api.Copy{c}), api.OK
}

// together is all copies of the lists, in order, in new memory: each text has its own, also where those handed in share theirs.
func together(lists ...[]api.Copy) []api.Copy {
	var out []api.Copy
	for _, l := range lists {
		for _, c := range l {
			out = append(out, twin(c))
		}
	}
	return out
}

func twin(c api.Copy) api.Copy {
	c.Text = bytes.Clone(c.Text)
	return c
}
