package trains

import (
	"cmp"
	"math/bits"
	"slices"

	"flong/api"
)

// group is some trains: a train is one of them if the bit of its number is 1.
type group uint

const nobody group = 0

func (g group) size() int { return bits.OnesCount(uint(g)) }

// trains returns the trains of a group, ascending.
func (g group) trains() []int {
	var trains []int
	for train := range api.MaxTrains {
		if g>>train&1 == 1 {
			trains = append(trains, train)
		}
	}
	return trains
}

// compare returns a number below 0 if a group is better to be told than another one.
func (g group) compare(other group) int {
	return cmp.Or(cmp.Compare(g.size(), other.size()), slices.Compare(g.trains(), other.trains()))
}

// late returns the trains that are late.
func (h house) late(t times) group {
	late := nobody
	for bundle, b := range h.Bundles {
		if h.delay(t, bundle) > 0 {
			late |= 1 << b.Train
		}
	}
	return late
}

// lateMany returns how many trains are late.
func (h house) lateMany(t times) int { return h.late(t).size() }

// sure reports whether in each case there is a plan by which no train is late.
func (h house) sure() bool {
cases:
	for stop := range h.cases() {
		for plan := range h.plans(stop) {
			if h.late(h.times(plan)) == nobody {
				continue cases
			}
		}
		return false
	}
	return true
}

// lates says of each group whether just these trains are late by some plan.
type lates [1 << api.MaxTrains]bool

// lates returns who may be late in a case.
func (h house) lates(stop int) lates {
	var all lates
	for plan := range h.plans(stop) {
		all[h.late(h.times(plan))] = true
	}
	return all
}

// spares reports whether there is a plan by which no trains are late but some that are told.
func (l lates) spares(told group) bool {
	for late, some := range l {
		if some && group(late)&^told == nobody {
			return true
		}
	}
	return false
}

// told returns the best group to be told.
func (h house) told() group {
	var cases []lates
	for stop := range h.cases() {
		cases = append(cases, h.lates(stop))
	}
	everybody := group(1)<<len(h.Trains) - 1
	best := everybody
	for told := range everybody {
		refused := func(l lates) bool { return !l.spares(told) }
		if told.compare(best) < 0 && !slices.ContainsFunc(cases, refused) {
			best = told
		}
	}
	return best
}

// wait returns how many minutes later one train must leave in a case so that no train is late; never if another one is late all the same.
func (h house) wait(stop, train int) int {
	_, minutes := h.best(stop, func(t times) int {
		longest := 0
		for bundle, b := range h.Bundles {
			delay := h.delay(t, bundle)
			if b.Train != train && delay > 0 {
				return never
			}
			if b.Train == train {
				longest = max(longest, delay)
			}
		}
		return longest
	})
	return minutes
}

// lag returns how many minutes later all trains must leave in a case so that none is late (below 0: earlier, by MaxTrainMinute at the most); never if a bundle cannot be printed.
func (h house) lag(stop int) int {
	_, minutes := h.best(stop, func(t times) int {
		longest := -api.MaxTrainMinute
		for bundle := range h.Bundles {
			longest = max(longest, h.delay(t, bundle))
		}
		return longest
	})
	return minutes
}
