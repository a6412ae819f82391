package flight

import (
	"headcount/api"
	"headcount/mass"
)

// find is the place of the first load of which ask tells what is wanted, and whether there is one; without one, the place behind all.
func find[T comparable](l []api.Load, ask func(load api.Load) T, wanted T) (place int, there bool) {
	for at, load := range l {
		if ask(load) == wanted {
			return at, true
		}
	}
	return len(l), false
}

// numbers tells of a Number where its load stands in l, and whether it does. It refuses what all calls on a Number refuse, in their order.
func numbers(l []api.Load) func(number int) (at int, there bool, e api.Errno) {
	fault := Check(l)
	return func(number int) (at int, there bool, e api.Errno) {
		if fault != api.OK {
			return 0, false, fault
		}
		if !within(number, api.MaxNumber) {
			return 0, false, api.ErrArg
		}
		at, there = find(l, func(load api.Load) int { return load.Number }, number)
		return at, there, api.OK
	}
}

// rising tells of each Number that it is handed whether it is above the one ahead of it.
func rising() func(number int) bool {
	last := -1
	return func(number int) bool {
		rises := number > last
		last = number
		return rises
	}
}

func mayBe(load api.Load) bool {
	return within(load.Number, api.MaxNumber) && within(load.Epoch, api.MaxEpoch) &&
		load.Copies >= 1 && load.Copies <= api.MaxFly && mass.Check(load.Give) == api.OK
}

// within tells whether n is from 0 to most.
func within(n, most int) bool { return n >= 0 && n <= most }
