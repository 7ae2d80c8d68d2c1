package pours

import (
	"iter"
	"slices"

	"flong/api"
)

// orders yields all orders, lesser ones first. They stay as they are, so who gets one may keep it.
func (s shop) orders(yield func([]int) bool) {
	s.extend(nil, yield)
}

// extend yields an order and all that go on behind it; it reports whether more are asked for.
func (s shop) extend(order []int, yield func([]int) bool) bool {
	if !yield(order) {
		return false
	}
	for job := range s.Jobs {
		if slices.Contains(order, job) {
			continue
		}
		// The list is cut at its end, so that two lists that go on behind it share no memory.
		longer := append(order[:len(order):len(order)], job)
		if !s.extend(longer, yield) {
			return false
		}
	}
	return true
}

// whole yields all orders of all jobs, lesser ones first.
func (s shop) whole(yield func([]int) bool) {
	for order := range s.orders {
		if len(order) == len(s.Jobs) && !yield(order) {
			return
		}
	}
}

// greatest returns the order of which what is asked is the greatest, the first of several, and this number.
func greatest(orders iter.Seq[[]int], ask func(order []int) int) ([]int, int) {
	var best []int
	most, found := 0, false
	for order := range orders {
		if n := ask(order); !found || n > most {
			best, most, found = order, n, true
		}
	}
	return best, most
}

// best returns the least order with the greatest sure worth, and this worth.
func (s shop) best() ([]int, int) {
	return greatest(s.orders, func(order []int) int { return s.worth(s.surely(order)) })
}

// bestWith reports whether the plate of a job is surely in time by some order with the greatest sure worth, and whether it is by all of them.
func (s shop) bestWith(job int) (some, all bool) {
	_, best := s.best()
	some, all = false, true
	for order := range s.orders {
		sure := s.surely(order)
		if s.worth(sure) < best {
			continue
		}
		in := slices.Contains(sure, job)
		some = some || in
		all = all && in
	}
	return some, all
}

// waiting returns the shop with a mould that dries up to so many minutes.
func (s shop) waiting(job, high int) shop {
	jobs := slices.Clone(s.Jobs)
	jobs[job].Dry.High = high
	return shop{api.PourShop{Jobs: jobs}}
}

// quick returns the least order by which all plates are surely ready at the least minute, and this minute.
func (s shop) quick() ([]int, int) {
	order, early := greatest(s.whole, func(order []int) int { return -s.end(order) })
	return order, -early
}

// rank returns the place of a job by the rule of the house: of two jobs the one with the lesser rank, number by number, comes first.
func rank(j api.PourJob) []int {
	if j.Beat <= j.Pour {
		return []int{0, j.Beat + j.Dry.High}
	}
	return []int{1, -(j.Pour + j.Dry.High)}
}

// rule returns all jobs by the rule of the house.
func (s shop) rule() []int {
	var order []int
	for job := range s.Jobs {
		order = append(order, job)
	}
	slices.SortStableFunc(order, func(one, other int) int {
		return slices.Compare(rank(s.Jobs[one]), rank(s.Jobs[other]))
	})
	return order
}
