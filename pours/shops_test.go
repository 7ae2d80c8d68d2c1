package pours_test

import (
	"math/rand"
	"slices"

	"flong/api"
)

func list(l ...int) []int { return l }

func lists(l ...[]int) [][]int { return l }

func span(low, high int) api.Span { return api.Span{Low: low, High: high} }

// job is in the order of the chapter's examples: beat, dry, pour, due, worth.
func job(beat, low, high, pour, due, worth int) api.PourJob {
	return api.PourJob{Beat: beat, Dry: span(low, high), Pour: pour, Due: due, Worth: worth}
}

func jobs(l ...api.PourJob) api.PourShop { return api.PourShop{Jobs: l} }

// shopS is S of the chapter's examples.
func shopS() api.PourShop {
	return jobs(job(3, 2, 4, 2, 9, 10), job(1, 1, 1, 4, 7, 6), job(2, 0, 3, 3, 14, 8))
}

func withS(change func(s *api.PourShop)) api.PourShop { return changed(shopS(), change) }

// changed returns a copy of a shop with something changed.
func changed(s api.PourShop, change func(s *api.PourShop)) api.PourShop {
	s.Jobs = slices.Clone(s.Jobs)
	change(&s)
	return s
}

// alike is a shop with so many jobs that are like one.
func alike(many int, j api.PourJob) api.PourShop {
	return jobs(slices.Repeat([]api.PourJob{j}, many)...)
}

// someShops returns shops of all sorts, with so many jobs at the most, of which each mould has so many minutes between which it may dry; the same at each call.
func someShops(many, most, width int) []api.PourShop {
	r := rand.New(rand.NewSource(5))
	shops := []api.PourShop{{}}
	for len(shops) < many {
		shops = append(shops, someShop(r, most, width))
	}
	return shops
}

// someShop has plates that are due about when they are ready by some order, in some truth; so one is often just in time, and often just not.
func someShop(r *rand.Rand, most, width int) api.PourShop {
	var s api.PourShop
	work, dry, worth := []int{2, 4, 9}[r.Intn(3)], []int{1, 4, 10}[r.Intn(3)], []int{2, 4, 100}[r.Intn(3)]
	for range r.Intn(most + 1) {
		low := r.Intn(dry)
		high := min(low+r.Intn(width), api.MaxPourMinutes)
		s.Jobs = append(s.Jobs, job(1+r.Intn(work), low, high, 1+r.Intn(work), 0, r.Intn(worth)))
	}
	slack := []int{1, 3, 9, 30}[r.Intn(4)]
	for i, minute := range wantReady(s, r.Perm(len(s.Jobs)), someTruth(r, s)) {
		s.Jobs[i].Due = min(max(minute+r.Intn(slack)-r.Intn(3), 0), api.MaxPourDue)
	}
	return s
}

func someTruth(r *rand.Rand, s api.PourShop) []int {
	var dries []int
	for _, j := range s.Jobs {
		dries = append(dries, j.Dry.Low+r.Intn(j.Dry.High-j.Dry.Low+1))
	}
	return dries
}

// someOrder has some jobs of a shop, or all.
func someOrder(r *rand.Rand, s api.PourShop) []int {
	order := r.Perm(len(s.Jobs))
	if r.Intn(2) == 0 {
		return order
	}
	return order[:r.Intn(len(order)+1)]
}
