package flongs_test

import (
	"math/rand"
	"slices"

	"flong/api"
	"flong/checks"
)

func list(l ...int) []int { return l }

func span(low, high int) api.Span { return api.Span{Low: low, High: high} }

func mould(page, used, broke int) api.FlongMould {
	return api.FlongMould{Page: page, Used: used, Broke: broke}
}

// shopS is S of the chapter's examples, and shopT is T.
func shopS() api.FlongShop {
	return api.FlongShop{
		Moulds: []api.FlongMould{mould(0, 3, 0), mould(0, 5, 0), mould(1, 2, 1), mould(1, 0, 0)},
		Worlds: [][]int{{8, 9, 2, 4}, {6, 9, 2, 6}, {12, 7, 2, 3}, {9, 9, 4, 9}},
		Wants:  list(5, 3), Fresh: 6,
	}
}

func shopT() api.FlongShop { return withS(func(s *api.FlongShop) { s.Wants[0] = 6 }) }

func withS(change func(s *api.FlongShop)) api.FlongShop { return changed(shopS(), change) }

// changed returns a copy of a shop with something changed.
func changed(s api.FlongShop, change func(s *api.FlongShop)) api.FlongShop {
	s = checks.CopyShop(s)
	change(&s)
	return s
}

// one is a shop with one page and new moulds of it, that last so many casts in each world.
func one(want int, worlds ...[]int) api.FlongShop {
	return api.FlongShop{Moulds: make([]api.FlongMould, len(worlds[0])), Worlds: worlds, Wants: list(want), Fresh: 1}
}

// someShops returns shops of all sorts, with so many moulds at the most, the same at each call.
func someShops(many, moulds int) []api.FlongShop {
	r := rand.New(rand.NewSource(2))
	shops := []api.FlongShop{shopS(), shopT(), {Fresh: 1}, {Worlds: [][]int{{}, nil}, Fresh: 12}, {Wants: list(0, 2), Worlds: [][]int{nil}, Fresh: 2}}
	for len(shops) < many {
		shops = append(shops, someShop(r, moulds))
	}
	return shops
}

// someShop mostly has some worlds that agree and some that do not; its moulds last little often, so that some are tired.
func someShop(r *rand.Rand, moulds int) api.FlongShop {
	s := api.FlongShop{Fresh: 1 + r.Intn([]int{2, 5, 12}[r.Intn(3)])}
	for range 1 + r.Intn(3) {
		s.Wants = append(s.Wants, r.Intn([]int{2, 5, 13}[r.Intn(3)]))
	}
	casts := []int{3, 6, 12}[r.Intn(3)]
	for range r.Intn(moulds + 1) {
		s.Moulds = append(s.Moulds, mould(r.Intn(len(s.Wants)), r.Intn(casts+1)*r.Intn(2), r.Intn(4)/3))
	}
	for range r.Intn(7) {
		if len(s.Worlds) > 0 && r.Intn(6) == 0 {
			s.Worlds = append(s.Worlds, slices.Clone(s.Worlds[0]))
			continue
		}
		s.Worlds = append(s.Worlds, someWorld(r, s, casts))
	}
	return s
}

// someWorld agrees, but seldom with what is just one cast away from it.
func someWorld(r *rand.Rand, s api.FlongShop, casts int) []int {
	var lasts []int
	for _, m := range s.Moulds {
		n := m.Used
		if m.Broke == 0 {
			n = min(m.Used+r.Intn(casts+1)*r.Intn(3)/2, api.MaxFlongCasts)
		}
		lasts = append(lasts, n)
	}
	if len(lasts) > 0 && r.Intn(3) == 0 {
		mould := r.Intn(len(lasts))
		lasts[mould] = min(max(lasts[mould]+r.Intn(3)-1, 0), api.MaxFlongCasts)
	}
	return lasts
}
