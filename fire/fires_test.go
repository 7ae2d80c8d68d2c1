package fire_test

import (
	"slices"

	"flong/api"
	"flong/checks"
)

// What the chapter says, word by word: each fire, each set of buildings and each carrying is looked at.

// wantThere returns all things that are there.
func wantThere(t api.FireTown) []int {
	var there []int
	for i, x := range t.House.Things {
		if x.At <= t.Minute {
			there = append(there, i)
		}
	}
	return there
}

// wantHas reports whether a thing has a change at a minute, as chapter 7 says it.
func wantHas(t api.FireTown, i, change, minute int) bool {
	x := t.House.Things[i]
	if minute < x.At {
		return false
	}
	for _, m := range t.House.Marks {
		if m.Change == change && m.Thing == i && m.At <= minute {
			return true
		}
	}
	return x.Of >= 0 && wantHas(t, x.Of, change, x.At)
}

func wantPage(t api.FireTown, i int) int {
	if of := t.House.Things[i].Of; of >= 0 {
		return wantPage(t, of)
	}
	return i
}

// wantPages returns all pages of which some of these things are.
func wantPages(t api.FireTown, l []int) []int {
	var pages []int
	for _, i := range l {
		pages = append(pages, wantPage(t, i))
	}
	slices.Sort(pages)
	return slices.Compact(pages)
}

// wantLacks returns which changes of its page a thing lacks.
func wantLacks(t api.FireTown, i int) []int {
	var lacks []int
	for change := range 3 {
		in := func(other int) bool {
			return wantPage(t, other) == wantPage(t, i) && wantHas(t, other, change, t.Minute)
		}
		if slices.ContainsFunc(wantThere(t), in) && !wantHas(t, i, change, t.Minute) {
			lacks = append(lacks, change)
		}
	}
	return lacks
}

// wantAllFresh returns all things that are there and fresh.
func wantAllFresh(t api.FireTown) []int {
	lacks := func(i int) bool { return len(wantLacks(t, i)) > 0 }
	return slices.DeleteFunc(wantThere(t), lacks)
}

// outside returns those of some things that are in none of some buildings.
func outside(t api.FireTown, l []int, buildings ...int) []int {
	burns := func(i int) bool { return slices.Contains(buildings, t.Places[i]) }
	return slices.DeleteFunc(slices.Clone(l), burns)
}

// apart returns those of some numbers that others do not have.
func apart(l, others []int) []int {
	return slices.DeleteFunc(slices.Clone(l), func(n int) bool { return slices.Contains(others, n) })
}

func wantLeft(t api.FireTown, building int) []int { return outside(t, wantThere(t), building) }

func wantLost(t api.FireTown, building int) []int {
	return apart(wantPages(t, wantThere(t)), wantPages(t, wantLeft(t, building)))
}

func wantStale(t api.FireTown, building int) []int {
	return apart(wantPages(t, wantLeft(t, building)), wantPages(t, outside(t, wantAllFresh(t), building)))
}

// wantAgain returns what must be made again of a page, and whether something of it is left.
func wantAgain(t api.FireTown, building, page int) ([]int, bool) {
	var all [][]int
	for _, i := range wantLeft(t, building) {
		if wantPage(t, i) == page {
			all = append(all, wantLacks(t, i))
		}
	}
	slices.SortFunc(all, func(one, other []int) int {
		if d := len(one) - len(other); d != 0 {
			return d
		}
		return slices.Compare(one, other)
	})
	if len(all) == 0 {
		return nil, false
	}
	return all[0], true
}

func wantSafe(t api.FireTown) bool {
	for building := range t.Rooms {
		if len(wantLost(t, building))+len(wantStale(t, building)) > 0 {
			return false
		}
	}
	return true
}

// wantBears returns the greatest number of buildings of which any as many may burn at once.
func wantBears(t api.FireTown, page int) int {
	bears := len(t.Rooms)
	for _, burning := range checks.Subsets(len(t.Rooms)) {
		if !slices.Contains(wantPages(t, outside(t, wantAllFresh(t), burning...)), page) {
			bears = min(bears, len(burning)-1)
		}
	}
	return bears
}

func wantWorst(t api.FireTown) int {
	harm := func(building int) int { return 100*len(wantLost(t, building)) + len(wantStale(t, building)) }
	worst := 0
	for building := range t.Rooms {
		if harm(building) > harm(worst) {
			worst = building
		}
	}
	return worst
}

// carryings returns the places of all carryings, whether they leave the town valid or not.
func carryings(t api.FireTown) [][]int {
	all := lists(nil)
	for i, x := range t.House.Things {
		var more [][]int
		for _, places := range all {
			for building := range t.Rooms {
				if building == t.Places[i] || x.At <= t.Minute {
					more = append(more, append(slices.Clone(places), building))
				}
			}
		}
		all = more
	}
	return all
}

func wantRoom(t api.FireTown) bool {
	for building, room := range t.Rooms {
		if in := len(wantThere(t)) - len(wantLeft(t, building)); in > room {
			return false
		}
	}
	return true
}

// costs returns how many pence it costs to carry all to some places, and how many things are carried.
func costs(t api.FireTown, places []int) (pence, many int) {
	for i, place := range places {
		if place != t.Places[i] {
			pence, many = pence+t.Carry[i], many+1
		}
	}
	return pence, many
}

// wantRemedies returns the places of all remedies, the least one first.
func wantRemedies(t api.FireTown) [][]int {
	bad := func(places []int) bool {
		after := at(t, places)
		return !wantRoom(after) || !wantSafe(after)
	}
	all := slices.DeleteFunc(carryings(t), bad)
	slices.SortFunc(all, func(one, other []int) int {
		p, m := costs(t, one)
		q, n := costs(t, other)
		if p != q {
			return p - q
		}
		if m != n {
			return m - n
		}
		return slices.Compare(one, other)
	})
	return all
}
