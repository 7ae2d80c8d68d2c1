package weeks

import (
	"iter"

	"flong/api"
)

// plan returns the least plan by which the least is counted, for a week without analyses.
func (s search) plan() ([][]int, api.Errno) {
	least, e := s.least()
	if e != api.OK {
		return nil, e
	}
	var plan [][]int
	k, added := s.start(), 0
	for range s.Nights {
		at := s.chosen(k, added, least)
		plan = append(plan, s.difference(at, added))
		k, added = s.behind(k), at
	}
	return plan, api.OK
}

// chosen returns the first choice on a night by which just so much is counted in the end, as it is by some choice.
func (s search) chosen(k known, added, least int) int {
	counts := s.count(s.behind(k))
	for at := range s.choices(added) {
		if s.safe(k, at) && counts[at] == least {
			return at
		}
	}
	return added
}

// choices yields the lists that may be added up to a night, if this one was added up to the night before, ascending.
func (s search) choices(added int) iter.Seq[int] {
	return func(yield func(at int) bool) {
		for at := added; at < len(s.lists); at++ {
			if s.has(at, added) && !yield(at) {
				return
			}
		}
	}
}

// has reports whether a list has at least as many pigs of each kind as another one.
func (s search) has(list, other int) bool {
	for kind, n := range s.lists[other] {
		if s.lists[list][kind] < n {
			return false
		}
	}
	return true
}

// difference returns how many pigs of each kind a list has more than another one.
func (s search) difference(list, other int) []int {
	difference := make([]int, len(s.Shop.Pigs))
	for kind, n := range s.lists[list] {
		difference[kind] = n - s.lists[other][kind]
	}
	return difference
}
