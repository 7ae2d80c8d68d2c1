package pours

import (
	"slices"

	"flong/api"
)

// Two truths are enough to know all of an order: if a mould dries longer no plate is ready earlier, so each plate is ready first if all moulds dry as shortly as they can, and last if all dry as long.

// drying says how long a mould dries, of how long it may.
type drying func(dry api.Span) int

func shortest(dry api.Span) int { return dry.Low }
func longest(dry api.Span) int  { return dry.High }

// minutes is when the plate of each job is ready; for a job that is not done it says nothing.
type minutes [api.MaxPourJobs]int

func (s shop) ready(order []int, dries drying) minutes {
	var ready minutes
	beaten, poured := 0, 0
	for _, job := range order {
		j := s.Jobs[job]
		beaten += j.Beat
		poured = max(poured, beaten+dries(j.Dry)) + j.Pour
		ready[job] = poured
	}
	return ready
}

// inTime returns the jobs of an order whose plates are in time.
func (s shop) inTime(order []int, dries drying) []int {
	ready := s.ready(order, dries)
	late := func(job int) bool { return ready[job] > s.Jobs[job].Due }
	return slices.DeleteFunc(slices.Clone(order), late)
}

// surely returns the jobs of an order whose plates are in time in each truth.
func (s shop) surely(order []int) []int { return s.inTime(order, longest) }

// worth returns what plates are worth together.
func (s shop) worth(jobs []int) int {
	sum := 0
	for _, job := range jobs {
		sum += s.Jobs[job].Worth
	}
	return sum
}

// end returns the minute at which all plates of an order are surely ready.
func (s shop) end(order []int) int {
	ready := s.ready(order, longest)
	return slices.Max(ready[:])
}
