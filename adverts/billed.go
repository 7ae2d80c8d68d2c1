package adverts

import (
	"slices"

	"flong/api"
)

func canBeBilled(billed []api.AdDay) bool { return len(billed) <= mostBilled }

// twice returns the places of all that should not have been billed.
func (b book) twice(billed []api.AdDay) []int {
	var twice []int
	for place, s := range billed {
		if !b.stood(s.Ad, s.Day) || slices.Contains(billed[:place], s) {
			twice = append(twice, place)
		}
	}
	return twice
}

// missing returns all standings that were not billed.
func (b book) missing(billed []api.AdDay) []api.AdDay {
	return slices.DeleteFunc(b.standings(), func(s api.AdDay) bool { return slices.Contains(billed, s) })
}
