package machines

import (
	"slices"

	"flong/api"
	"flong/trains"
)

// needs returns the least shelves that do for a case: some plan by which no train is late can be printed from a shelf just if it has all plates of one of them.
func (h hall) needs(stop int) []shelf {
	needs := map[shelf]bool{}
	plan := make([][]int, len(h.House.Machines))
	// extend puts the bundles from one on into the plan, in all ways: a train with a bundle in no list is late.
	var extend func(bundle int)
	extend = func(bundle int) {
		if bundle == len(h.House.Bundles) {
			if need := h.need(plan); !needs[need] && h.inTime(plan) {
				needs[need] = true
			}
			return
		}
		for machine, bundles := range plan {
			if machine == stop {
				continue
			}
			for at := range len(bundles) + 1 {
				plan[machine] = slices.Insert(slices.Clone(bundles), at, bundle)
				extend(bundle + 1)
			}
			plan[machine] = bundles
		}
	}
	extend(0)
	return leastOf(needs)
}

// inTime reports whether no train is late by a plan.
func (h hall) inTime(plan [][]int) bool {
	late, e := trains.Late(h.House, plan)
	return e == api.OK && len(late) == 0
}

// does reports whether a shelf does for a case.
func (h hall) does(s shelf, stop int) bool {
	return slices.ContainsFunc(h.needs(stop), s.has)
}

// enough returns the least shelves that do for all of some cases, the best one first.
func (h hall) enough(cases []int) []shelf {
	enough := []shelf{{}}
	for _, stop := range cases {
		needs := h.needs(stop)
		more := map[shelf]bool{}
		for _, s := range enough {
			for _, need := range needs {
				more[s.join(need)] = true
			}
		}
		enough = leastOf(more)
	}
	return enough
}

// best returns the best shelf that does for all of some cases; no plates with an error.
func (h hall) best(cases []int) (shelf, api.Errno) {
	if !h.valid() {
		return shelf{}, api.ErrMachine
	}
	enough := h.enough(cases)
	if len(enough) == 0 {
		return shelf{}, api.ErrNone
	}
	return enough[0], api.OK
}
