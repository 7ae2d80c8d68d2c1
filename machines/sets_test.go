package machines_test

import (
	"slices"

	"flong/api"
	"flong/checks"
	"flong/trains"
)

// What the chapter says, word by word: each plan of each case and each set that can matter is looked at.

func wantCases(h api.TrainHouse) []int {
	all := list(api.MachineNone)
	for i, m := range h.Machines {
		if m.Stops == 1 {
			all = append(all, i)
		}
	}
	return all
}

func sizeOf(set []api.MachinePlate) int {
	size := 0
	for _, p := range set {
		size += p.Many
	}
	return size
}

// missing returns how many plates of a set another one has not got.
func missing(set, from []api.MachinePlate) int {
	n := 0
	for _, p := range set {
		n += max(0, p.Many-checks.ManyOf(from, p.Page, p.Bore))
	}
	return n
}

// together returns all plates of some sets, in one.
func together(sets ...[]api.MachinePlate) []api.MachinePlate {
	var all []api.MachinePlate
	for _, set := range sets {
		for _, p := range set {
			all = checks.Put(all, p.Page, p.Bore, checks.ManyOf(all, p.Page, p.Bore)+p.Many)
		}
	}
	return all
}

// wantNeed returns, for each page and bore, how many machines of this bore need a plate of this page.
func wantNeed(h api.MachineHall, plan [][]int) []api.MachinePlate {
	var need []api.MachinePlate
	for page := range api.MaxMachinePages {
		for bore := range api.MaxMachineBores {
			hasPage := func(i int) bool { return slices.Contains(h.Editions[h.House.Bundles[i].Edition], page) }
			many := 0
			for on, l := range plan {
				if h.Bores[on] == bore && slices.ContainsFunc(l, hasPage) {
					many++
				}
			}
			if many > 0 {
				need = append(need, plates(page, bore, many)...)
			}
		}
	}
	return need
}

func wantFit(h api.MachineHall, on int, set []api.MachinePlate) []int {
	var fit []int
	for edition, pages := range h.Editions {
		if !slices.ContainsFunc(pages, func(page int) bool { return checks.ManyOf(set, page, h.Bores[on]) == 0 }) {
			fit = append(fit, edition)
		}
	}
	return fit
}

// allPlans returns all plans of a case: each bundle is left out, or put at each place of each list.
func allPlans(h api.TrainHouse, stop int) [][][]int {
	all := [][][]int{make([][]int, len(h.Machines))}
	for i := range h.Bundles {
		for _, plan := range all {
			for on, l := range plan {
				for place := 0; on != stop && place <= len(l); place++ {
					longer := slices.Clone(plan)
					longer[on] = slices.Insert(slices.Clone(l), place, i)
					all = append(all, longer)
				}
			}
		}
	}
	return all
}

// wantNeeds returns what the plans of a case need by which no train is late, each once.
func wantNeeds(h api.MachineHall, stop int) [][]api.MachinePlate {
	var needs [][]api.MachinePlate
	for _, plan := range allPlans(h.House, stop) {
		if late, _ := trains.Late(h.House, plan); len(late) > 0 {
			continue
		}
		need := wantNeed(h, plan)
		if !slices.ContainsFunc(needs, func(other []api.MachinePlate) bool { return slices.Equal(need, other) }) {
			needs = append(needs, need)
		}
	}
	return needs
}

// wantAll returns what is needed in each of some cases.
func wantAll(h api.MachineHall, cases []int) [][][]api.MachinePlate {
	var all [][][]api.MachinePlate
	for _, stop := range cases {
		all = append(all, wantNeeds(h, stop))
	}
	return all
}

// wantCan reports whether what is needed in a case can be printed from a set.
func wantCan(needs [][]api.MachinePlate, set []api.MachinePlate) bool {
	return slices.ContainsFunc(needs, func(need []api.MachinePlate) bool { return missing(need, set) == 0 })
}

func wantEnough(all [][][]api.MachinePlate, set []api.MachinePlate) bool {
	return !slices.ContainsFunc(all, func(needs [][]api.MachinePlate) bool { return !wantCan(needs, set) })
}

// allSets returns all sets with not more plates of a bore than there are machines of it, those first that have more plates of the first page and bore of which they do not have as many.
func allSets(h api.MachineHall) [][]api.MachinePlate {
	sets := [][]api.MachinePlate{nil}
	for page := range api.MaxMachinePages {
		for bore := range api.MaxMachineBores {
			var more [][]api.MachinePlate
			for _, set := range sets {
				for many := api.MaxTrainMachines; many >= 0; many-- {
					if many > machinesOf(h, bore) {
						continue
					}
					longer := slices.Clone(set)
					if many > 0 {
						longer = append(longer, plates(page, bore, many)...)
					}
					more = append(more, longer)
				}
			}
			sets = more
		}
	}
	return sets
}

func machinesOf(h api.MachineHall, bore int) int {
	many := 0
	for _, b := range h.Bores {
		if b == bore {
			many++
		}
	}
	return many
}

// wantSets returns all sets that are enough, in the order of allSets.
func wantSets(h api.MachineHall, cases []int) [][]api.MachinePlate {
	all := wantAll(h, cases)
	return slices.DeleteFunc(allSets(h), func(set []api.MachinePlate) bool { return !wantEnough(all, set) })
}

// wantExtra returns how many plates must come to a set at the least so that it has all of one of some others.
func wantExtra(set []api.MachinePlate, enough [][]api.MachinePlate) int {
	extra := sizeOf(enough[0])
	for _, other := range enough {
		extra = min(extra, missing(other, set))
	}
	return extra
}

// wantSet returns the first one of the sets with the fewest plates.
func wantSet(enough [][]api.MachinePlate) []api.MachinePlate {
	return slices.MinFunc(enough, func(one, other []api.MachinePlate) int { return sizeOf(one) - sizeOf(other) })
}

// wantIdle leaves out the plates of each page and bore, one by one.
func wantIdle(all [][][]api.MachinePlate, set []api.MachinePlate) []api.MachinePlate {
	var idle []api.MachinePlate
	for _, p := range set {
		for n := p.Many; n > 0; n-- {
			if wantEnough(all, checks.Put(set, p.Page, p.Bore, p.Many-n)) {
				idle = append(idle, plates(p.Page, p.Bore, n)...)
				break
			}
		}
	}
	return idle
}
