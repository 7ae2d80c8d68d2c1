package pours_test

import (
	"cmp"
	"slices"

	"flong/api"
	"flong/checks"
)

// What the chapter says, word by word: each order is looked at in each truth.

// truths returns how many minutes each mould dries in each truth.
func truths(s api.PourShop) [][]int {
	all := lists(nil)
	for _, j := range s.Jobs {
		var longer [][]int
		for _, dries := range all {
			for n := j.Dry.Low; n <= j.Dry.High; n++ {
				longer = append(longer, append(slices.Clone(dries), n))
			}
		}
		all = longer
	}
	return all
}

// allOrders returns all orders, the least one first: each job is left out, or put at each place.
func allOrders(s api.PourShop) [][]int {
	all := lists(nil)
	for i := range s.Jobs {
		for _, order := range all {
			for place := range len(order) + 1 {
				all = append(all, slices.Insert(slices.Clone(order), place, i))
			}
		}
	}
	slices.SortFunc(all, slices.Compare[[]int])
	return all
}

func wholeOrders(s api.PourShop) [][]int {
	return slices.DeleteFunc(allOrders(s), func(order []int) bool { return len(order) < len(s.Jobs) })
}

// wantReady returns when the plate of each job is ready in a truth, or -1: the second man waits, minute by minute, until the mould is dry.
func wantReady(s api.PourShop, order, dries []int) []int {
	ready := slices.Repeat(list(-1), len(s.Jobs))
	beaten, free := 0, 0
	for _, i := range order {
		beaten += s.Jobs[i].Beat
		for free < beaten+dries[i] {
			free++
		}
		free += s.Jobs[i].Pour
		ready[i] = free
	}
	return ready
}

// story is what happens by an order in a truth.
type story struct {
	ready  []int
	inTime []bool
	worth  int
}

// stories returns what happens by an order, in each truth.
func stories(s api.PourShop, order []int) []story {
	var all []story
	for _, dries := range truths(s) {
		x := story{ready: wantReady(s, order, dries)}
		for i, minute := range x.ready {
			in := minute >= 0 && minute <= s.Jobs[i].Due
			x.inTime = append(x.inTime, in)
			if in {
				x.worth += s.Jobs[i].Worth
			}
		}
		all = append(all, x)
	}
	return all
}

// over returns between what a number is, over all stories.
func over(all []story, number func(x story) int) api.Span {
	low := slices.MinFunc(all, func(one, other story) int { return number(one) - number(other) })
	high := slices.MaxFunc(all, func(one, other story) int { return number(one) - number(other) })
	return span(number(low), number(high))
}

func wantInTime(all []story, i int) int {
	yes := func(x story) bool { return x.inTime[i] }
	no := func(x story) bool { return !x.inTime[i] }
	return checks.Known(slices.ContainsFunc(all, yes), slices.ContainsFunc(all, no))
}

// outcome is an order, the jobs whose plates are in time by it in each truth, and what they are worth together.
type outcome struct {
	order, sure []int
	worth       int
}

func outcomes(s api.PourShop) []outcome {
	var all []outcome
	for _, order := range allOrders(s) {
		x, happens := outcome{order: order}, stories(s, order)
		for i, j := range s.Jobs {
			if wantInTime(happens, i) == api.Surely {
				x.sure = append(x.sure, i)
				x.worth += j.Worth
			}
		}
		all = append(all, x)
	}
	return all
}

// wantBest returns the outcomes of all orders with the greatest sure worth, the least order first.
func wantBest(all []outcome) []outcome {
	best := slices.MaxFunc(all, func(one, other outcome) int { return one.worth - other.worth })
	return slices.DeleteFunc(slices.Clone(all), func(x outcome) bool { return x.worth < best.worth })
}

func wantMost(all []outcome) int {
	return len(slices.MaxFunc(all, func(one, other outcome) int { return len(one.sure) - len(other.sure) }).sure)
}

func wantMust(best []outcome, i int) int {
	yes := func(x outcome) bool { return slices.Contains(x.sure, i) }
	no := func(x outcome) bool { return !yes(x) }
	return checks.Known(slices.ContainsFunc(best, yes), slices.ContainsFunc(best, no))
}

// wantEnd returns the minute at which all plates are surely ready by an order of all jobs.
func wantEnd(s api.PourShop, order []int) int {
	return over(stories(s, order), func(x story) int { return slices.Max(append(list(0), x.ready...)) }).High
}

func wantQuick(s api.PourShop) ([]int, int) {
	quick := slices.MinFunc(wholeOrders(s), func(one, other []int) int { return wantEnd(s, one) - wantEnd(s, other) })
	return quick, wantEnd(s, quick)
}

func wantRule(s api.PourShop) []int {
	var first, then []int
	for i, j := range s.Jobs {
		if j.Beat <= j.Pour {
			first = append(first, i)
		} else {
			then = append(then, i)
		}
	}
	slices.SortFunc(first, func(i, k int) int {
		one, other := s.Jobs[i], s.Jobs[k]
		return cmp.Or(cmp.Compare(one.Beat+one.Dry.High, other.Beat+other.Dry.High), i-k)
	})
	slices.SortFunc(then, func(i, k int) int {
		one, other := s.Jobs[i], s.Jobs[k]
		return cmp.Or(cmp.Compare(other.Pour+other.Dry.High, one.Pour+one.Dry.High), i-k)
	})
	return append(first, then...)
}

func wantWait(s api.PourShop, i, best int) int {
	for high := api.MaxPourMinutes; high >= s.Jobs[i].Dry.Low; high-- {
		longer := changed(s, func(s *api.PourShop) { s.Jobs[i].Dry.High = high })
		if wantBest(outcomes(longer))[0].worth >= best {
			return high
		}
	}
	panic("with the High that it has it is as it is")
}
