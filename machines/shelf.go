package machines

import (
	"cmp"
	"maps"
	"slices"

	"flong/api"
)

// shelf is how many plates there are of each page and bore, in the order of sets.
type shelf [api.MaxMachinePages * api.MaxMachineBores]int

// place returns where on a shelf the plates of a page and a bore are.
func place(page, bore int) int { return page*api.MaxMachineBores + bore }

// isSet reports whether a list of any plates is a set of plates.
func isSet(set []api.MachinePlate) bool {
	least := 0
	for _, p := range set {
		if !validPage(p.Page) || !validBore(p.Bore) || !between(p.Many, 1, api.MaxMachineMany) || place(p.Page, p.Bore) < least {
			return false
		}
		least = place(p.Page, p.Bore) + 1
	}
	return true
}

// shelfOf returns the shelf of a set of plates.
func shelfOf(set []api.MachinePlate) shelf {
	var s shelf
	for _, p := range set {
		s[place(p.Page, p.Bore)] = p.Many
	}
	return s
}

// set returns the plates of a shelf as a set.
func (s shelf) set() []api.MachinePlate {
	var set []api.MachinePlate
	for at, many := range s {
		if many > 0 {
			set = append(set, api.MachinePlate{Page: at / api.MaxMachineBores, Bore: at % api.MaxMachineBores, Many: many})
		}
	}
	return set
}

// size returns how many plates a shelf has.
func (s shelf) size() int {
	size := 0
	for _, many := range s {
		size += many
	}
	return size
}

func (s shelf) plus(other shelf) shelf {
	for at, many := range other {
		s[at] += many
	}
	return s
}

func (s shelf) minus(other shelf) shelf {
	for at, many := range other {
		s[at] -= many
	}
	return s
}

// join returns the fewest plates that are enough for what either shelf is enough for, one at a time.
func (s shelf) join(other shelf) shelf {
	for at, many := range other {
		s[at] = max(s[at], many)
	}
	return s
}

// has reports whether a shelf has all plates of another one.
func (s shelf) has(other shelf) bool {
	return s.join(other) == s
}

// compare returns a number below 0 if a shelf is better to be poured than another one: if it has fewer plates, or as many, and more at the first place at which they differ.
func (s shelf) compare(other shelf) int {
	return cmp.Or(cmp.Compare(s.size(), other.size()), slices.Compare(other[:], s[:]))
}

// leastOf returns those of some shelves that do not have all plates of another one, the best one first.
func leastOf(shelves map[shelf]bool) []shelf {
	var least []shelf
	// A shelf that has all plates of another one has more of them, so it comes later.
	for _, s := range slices.SortedFunc(maps.Keys(shelves), shelf.compare) {
		if !slices.ContainsFunc(least, s.has) {
			least = append(least, s)
		}
	}
	return least
}
