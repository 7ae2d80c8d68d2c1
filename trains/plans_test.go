package trains_test

import (
	"slices"

	"flong/api"
)

// What the chapter says, word by word: each plan of each case, each group of trains and each minute is looked at.

// none is the case without a stop.
const none = -1

func cases(h api.TrainHouse) []int {
	all := list(none)
	for i, m := range h.Machines {
		if m.Stops == 1 {
			all = append(all, i)
		}
	}
	return all
}

func comparePlans(one, other [][]int) int {
	return slices.CompareFunc(one, other, slices.Compare[[]int])
}

// allPlans returns all plans of a case, the least one first: each bundle is left out, or put at each place of each list.
func allPlans(h api.TrainHouse, stop int) [][][]int {
	all := [][][]int{make([][]int, len(h.Machines))}
	for i := range h.Bundles {
		for _, plan := range all {
			for on, l := range plan {
				for place := 0; on != stop && place <= len(l); place++ {
					longer := slices.Clone(plan)
					longer[on] = slices.Insert(slices.Clone(l), place, i)
					all = append(all, longer)
				}
			}
		}
	}
	slices.SortFunc(all, comparePlans)
	return all
}

func wantTimes(h api.TrainHouse, plan [][]int) []int {
	minutes := slices.Repeat(list(-1), len(h.Bundles))
	for on, l := range plan {
		minute, before := h.Machines[on].Ready, none
		for _, i := range l {
			b := h.Bundles[i]
			if before != none && before != b.Edition {
				minute += h.Change
			}
			for range b.Hundreds {
				minute += h.Machines[on].Pace
			}
			minutes[i], before = minute, b.Edition
		}
	}
	return minutes
}

// lateAt returns the trains that are late if they leave at some minutes, and their bundles are printed at others.
func lateAt(h api.TrainHouse, leaves, minutes []int) []int {
	var late []int
	for train, leave := range leaves {
		for i, b := range h.Bundles {
			if b.Train == train && (minutes[i] == -1 || minutes[i] > leave) {
				late = append(late, train)
				break
			}
		}
	}
	return late
}

func wantLate(h api.TrainHouse, plan [][]int) []int {
	return lateAt(h, h.Trains, wantTimes(h, plan))
}

// wantBest returns the least of the best plans of a case, and how many trains are late by it.
func wantBest(h api.TrainHouse, stop int) ([][]int, int) {
	best := slices.MinFunc(allPlans(h, stop), func(one, other [][]int) int {
		return len(wantLate(h, one)) - len(wantLate(h, other))
	})
	return best, len(wantLate(h, best))
}

func wantKey(h api.TrainHouse) int {
	key, most := 0, -1
	for on := range h.Machines {
		if _, late := wantBest(h, on); late > most {
			key, most = on, late
		}
	}
	return key
}

// printed returns at which minutes bundles are printed by all plans of each case.
func printed(h api.TrainHouse) [][][]int {
	var all [][][]int
	for _, stop := range cases(h) {
		var minutes [][]int
		for _, plan := range allPlans(h, stop) {
			minutes = append(minutes, wantTimes(h, plan))
		}
		all = append(all, minutes)
	}
	return all
}

// inTime reports whether in each case there is a plan by which no trains are late but some that are told, if the trains leave at some minutes.
func inTime(h api.TrainHouse, all [][][]int, leaves, told []int) bool {
	for _, plans := range all {
		if !slices.ContainsFunc(plans, func(minutes []int) bool { return within(lateAt(h, leaves, minutes), told) }) {
			return false
		}
	}
	return true
}

// within reports whether all numbers of a list are in another one.
func within(one, other []int) bool {
	return !slices.ContainsFunc(one, func(n int) bool { return !slices.Contains(other, n) })
}

// groups returns all lists of some trains, ascending each: the shorter ones first, and of these the least ones.
func groups(trains int) [][]int {
	all := lists(nil)
	for train := range trains {
		for _, l := range all {
			all = append(all, append(slices.Clone(l), train))
		}
	}
	slices.SortFunc(all, func(one, other []int) int {
		if len(one) != len(other) {
			return len(one) - len(other)
		}
		return slices.Compare(one, other)
	})
	return all
}

func wantTold(h api.TrainHouse, all [][][]int) []int {
	for _, told := range groups(len(h.Trains)) {
		if inTime(h, all, h.Trains, told) {
			return told
		}
	}
	panic("if all trains are told no other one is late")
}

func wantWait(h api.TrainHouse, all [][][]int, train int) (int, bool) {
	leaves := slices.Clone(h.Trains)
	for wait := 0; leaves[train] <= api.MaxTrainMinute; wait++ {
		if inTime(h, all, leaves, nil) {
			return wait, true
		}
		leaves[train]++
	}
	return 0, false
}

func wantSpare(h api.TrainHouse, all [][][]int) (int, bool) {
	for spare := api.MaxTrainMinute; spare >= 0; spare-- {
		leaves := slices.Clone(h.Trains)
		for train := range leaves {
			leaves[train] -= spare
		}
		if inTime(h, all, leaves, nil) {
			return spare, true
		}
	}
	return 0, false
}
