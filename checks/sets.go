package checks

import (
	"slices"

	"flong/api"
)

// Subsets returns all lists of some numbers below this one, ascending.
func Subsets(many int) [][]int {
	all := [][]int{nil}
	for n := range many {
		for _, l := range all {
			all = append(all, append(slices.Clone(l), n))
		}
	}
	return all
}

// Plates has threes of numbers, in the order of the chapters' examples: page, bore, many.
func Plates(l ...int) []api.MachinePlate {
	var set []api.MachinePlate
	for three := range slices.Chunk(l, 3) {
		set = append(set, api.MachinePlate{Page: three[0], Bore: three[1], Many: three[2]})
	}
	return set
}

// ManyOf returns how many plates of a page and a bore a set has.
func ManyOf(set []api.MachinePlate, page, bore int) int {
	for _, p := range set {
		if p.Page == page && p.Bore == bore {
			return p.Many
		}
	}
	return 0
}

// Put returns a set with just so many plates of a page and a bore, and all others as they were.
func Put(set []api.MachinePlate, page, bore, many int) []api.MachinePlate {
	var other []api.MachinePlate
	for p := range api.MaxMachinePages {
		for b := range api.MaxMachineBores {
			n := ManyOf(set, p, b)
			if p == page && b == bore {
				n = many
			}
			if n > 0 {
				other = append(other, Plates(p, b, n)...)
			}
		}
	}
	return other
}
