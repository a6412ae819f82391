package seen

import (
	"cmp"

	"headcount/api"
)

// Where a number stands to what is asked for, as cmp.Compare tells it, too; if it is neither, it is that.
const (
	ahead  = -1
	behind = 1
)

// find is n's place in l, or the one that it would have, and whether it is there.
func find(l []int, n int) (place int, there bool, e api.Errno) {
	if e = Check(l); e != api.OK {
		return 0, false, e
	}
	if n < 0 || n > api.MaxNumber {
		return 0, false, api.ErrArg
	}
	place, there = searching(func(_, number int) int { return cmp.Compare(number, n) })(l)
	return place, there, api.OK
}

// searching is a search by halves for what is asked for: its place, behind all numbers that ask tells to be ahead of it, and whether it is there.
func searching(ask func(at, number int) int) func(l []int) (place int, there bool) {
	return func(l []int) (place int, there bool) {
		low, high := 0, len(l)
	halves:
		for low < high {
			middle := (low + high) / 2
			switch ask(middle, l[middle]) {
			case ahead:
				low = middle + 1
			case behind:
				high = middle
			default:
				low, there = middle, true
				break halves
			}
		}
		return low, there
	}
}
