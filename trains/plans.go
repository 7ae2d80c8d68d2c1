package trains

import (
	"iter"
	"math"
	"slices"

	"flong/api"
)

// noStop is the case in which no machine stops; the other cases are known by the machine that stops.
const noStop = -1

// cases yields all cases of the house.
func (h house) cases() iter.Seq[int] {
	return func(yield func(int) bool) {
		if !yield(noStop) {
			return
		}
		for machine, m := range h.Machines {
			if m.Stops == 1 && !yield(machine) {
				return
			}
		}
	}
}

// plans yields all plans of a case, lesser ones first. It goes on with the plan that it yields, so who keeps one keeps a copy.
func (h house) plans(stop int) iter.Seq[[][]int] {
	return func(yield func([][]int) bool) {
		plan := make([][]int, len(h.Machines))
		var met [api.MaxTrainBundles]bool
		// extend yields all plans that go on from this one at the list of a machine; it reports whether more are asked for.
		var extend func(machine int) bool
		extend = func(machine int) bool {
			if machine == len(plan) {
				return yield(plan)
			}
			// A list is less than those that go on behind it, so it is left as it is first.
			if !extend(machine + 1) {
				return false
			}
			if machine == stop {
				return true
			}
			begun := plan[machine]
			for bundle := range h.Bundles {
				if met[bundle] {
					continue
				}
				met[bundle] = true
				plan[machine] = append(begun, bundle)
				more := extend(machine)
				plan[machine] = begun
				met[bundle] = false
				if !more {
					return false
				}
			}
			return true
		}
		extend(0)
	}
}

// best returns the plan of a case of which what is asked is the least, the least plan of several, and this number.
func (h house) best(stop int, ask func(t times) int) ([][]int, int) {
	var best [][]int
	least := 0
	for plan := range h.plans(stop) {
		if n := ask(h.times(plan)); best == nil || n < least {
			best, least = clone(plan), n
		}
	}
	return best, least
}

func clone(plan [][]int) [][]int {
	kept := make([][]int, len(plan))
	for machine, bundles := range plan {
		kept[machine] = slices.Clone(bundles)
	}
	return kept
}

// times is the minute at which each bundle is printed.
type times [api.MaxTrainBundles]int

// notPrinted stands for the minute of a bundle that is in no list.
const notPrinted = -1

// times returns when bundles are printed by a plan; those that a house has not got are not.
func (h house) times(plan [][]int) times {
	var t times
	for bundle := range t {
		t[bundle] = notPrinted
	}
	for machine, bundles := range plan {
		m := h.Machines[machine]
		minute := m.Ready
		for place, bundle := range bundles {
			b := h.Bundles[bundle]
			if place > 0 && h.Bundles[bundles[place-1]].Edition != b.Edition {
				minute += h.Change
			}
			minute += b.Hundreds * m.Pace
			t[bundle] = minute
		}
	}
	return t
}

// timesOf returns when bundles are printed by lists that are to be a plan. Only those for a valid house are looked at: another one may have more bundles than there is room for.
func (h house) timesOf(lists [][]int) (times, api.Errno) {
	if !h.valid() {
		return times{}, api.ErrTrain
	}
	if !h.isPlan(lists) {
		return times{}, api.ErrArg
	}
	return h.times(lists), api.OK
}

// never stands for more minutes than a train can wait.
const never = math.MaxInt

// delay returns how many minutes later than its train leaves a bundle is printed (below 0: earlier); never if it is not printed.
func (h house) delay(t times, bundle int) int {
	if t[bundle] == notPrinted {
		return never
	}
	return t[bundle] - h.Trains[h.Bundles[bundle].Train]
}
