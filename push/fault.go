package push

import (
	"slices"

	"headcount/api"
	"headcount/mass"
)

// fault is one that a share may have.
type fault func(m api.Mass) bool

// need is what a call needs a share for.
type need uint8

const (
	toBe    need = iota // it may be
	toBound             // and what is handed in beside it may be
	toWeigh             // and it has weight
)

// refusal is the error that applies to a call on m; fits tells whether what is handed in beside it may be.
// Each error gives way to those that stand ahead of it.
func refusal(n need, m api.Mass, fits bool) (e api.Errno) {
	switch n {
	case toWeigh:
		if has(m, noWeight) {
			e = api.ErrNone
		}
		fallthrough
	case toBound:
		if !fits {
			e = api.ErrArg
		}
		fallthrough
	case toBe:
		if has(m, noMass, weightBelow0, sumAlone) {
			e = api.ErrBad
		}
	}
	return e
}

// has tells whether m has one of the faults.
func has(m api.Mass, faults ...fault) bool {
	return slices.ContainsFunc(faults, func(f fault) bool { return f(m) })
}

func noMass(m api.Mass) bool       { return mass.Check(m) != api.OK }
func weightBelow0(m api.Mass) bool { return m.W.Neg }
func noWeight(m api.Mass) bool     { return len(m.W.Limbs) == 0 }
func sumAlone(m api.Mass) bool     { return noWeight(m) && len(m.S.Limbs) > 0 }
