package metal_test

import (
	"math/rand"
	"slices"

	"flong/api"
	"flong/checks"
)

func list(l ...int) []int { return l }

func span(low, high int) api.Span { return api.Span{Low: low, High: high} }

func pot(pounds, tin, tins, antimony, antimonies int) api.MetalPot {
	return checks.Pot(pounds, tin, tins, antimony, antimonies)
}

func pig(pounds, tin, antimony, pence, many int) api.MetalPig {
	return checks.Pig(pounds, tin, antimony, pence, many)
}

// shopM is M of the chapter's examples, and shopL is L.
func shopM() api.MetalShop {
	return api.MetalShop{
		Pot: pot(200, 6, 8, 28, 30), Room: 300, TinPart: span(40, 60), AntimonyPart: span(120, 160),
		Pigs: []api.MetalPig{pig(10, 5, 0, 30, 3), pig(20, 1, 6, 25, 2), pig(25, 0, 0, 5, 2)},
	}
}

func shopL() api.MetalShop { return withM(func(s *api.MetalShop) { s.Pigs[0].Many = 0 }) }

func withM(change func(s *api.MetalShop)) api.MetalShop { return changed(shopM(), change) }

// changed returns a copy of a shop with something changed.
func changed(s api.MetalShop, change func(s *api.MetalShop)) api.MetalShop {
	s = clone(s)
	change(&s)
	return s
}

func clone(s api.MetalShop) api.MetalShop {
	s.Pigs = slices.Clone(s.Pigs)
	return s
}

func same(one, other api.MetalShop) bool {
	return one.Pot == other.Pot && one.Room == other.Room && one.TinPart == other.TinPart && one.AntimonyPart == other.AntimonyPart && slices.Equal(one.Pigs, other.Pigs)
}

// wide is a shop whose limits are kept by any metal.
func wide(p api.MetalPot, room int, pigs ...api.MetalPig) api.MetalShop {
	return api.MetalShop{Pot: p, Room: room, TinPart: span(0, 1000), AntimonyPart: span(0, 1000), Pigs: pigs}
}

// someShops returns shops of all sorts, the same at each call.
func someShops(many int) []api.MetalShop {
	r := rand.New(rand.NewSource(1))
	shops := []api.MetalShop{shopM(), shopL(), {}}
	for len(shops) < many {
		shops = append(shops, someShop(r))
	}
	return shops
}

// someShop has parts near to what some addition comes to, often none.
func someShop(r *rand.Rand) api.MetalShop {
	p := checks.SomePot(r, []int{0, 6, 30, 100, 380}[r.Intn(5)])
	s := api.MetalShop{Pot: p, Room: p.Pounds + r.Intn(100)}
	for range r.Intn(5) {
		s.Pigs = append(s.Pigs, checks.SomePig(r))
	}
	for _, pig := range s.Pigs {
		n := r.Intn(pig.Many + 1)
		if r.Intn(2) == 0 || p.Pounds+n*pig.Pounds > s.Room {
			continue
		}
		p.Pounds += n * pig.Pounds
		p.Tin = span(p.Tin.Low+n*pig.Tin, p.Tin.High+n*pig.Tin)
		p.Antimony = span(p.Antimony.Low+n*pig.Antimony, p.Antimony.High+n*pig.Antimony)
	}
	s.TinPart, s.AntimonyPart = somePart(r, p.Tin, p.Pounds), somePart(r, p.Antimony, p.Pounds)
	return s
}

// somePart often has just the bounds, or nearly so.
func somePart(r *rand.Rand, s api.Span, pounds int) api.Span {
	if r.Intn(8) == 0 || pounds == 0 {
		low := r.Intn(1001)
		return span([]int{0, low}[r.Intn(2)], []int{low, 1000}[r.Intn(2)])
	}
	low, high := 1000*s.Low/pounds-r.Intn(40)+5, 1000*s.High/pounds+r.Intn(40)-5
	if r.Intn(4) == 0 {
		high = low + r.Intn(30)
	}
	low = min(max(low, 0), 1000)
	return span(low, min(max(high, low), 1000))
}
