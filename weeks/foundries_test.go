package weeks_test

import (
	"math/rand"
	"slices"

	"flong/api"
	"flong/checks"
)

func list(l ...int) []int { return l }

func lists(l ...[]int) [][]int { return l }

func span(low, high int) api.Span { return api.Span{Low: low, High: high} }

func pot(pounds, tin, tins, antimony, antimonies int) api.MetalPot {
	return checks.Pot(pounds, tin, tins, antimony, antimonies)
}

func pig(pounds, tin, antimony, pence, many int) api.MetalPig {
	return checks.Pig(pounds, tin, antimony, pence, many)
}

func night(low, high, test int) api.WeekNight {
	return api.WeekNight{Dross: span(low, high), Test: test}
}

// foundryW is W of the chapter's examples; foundryU is U, and foundryV is V.
func foundryW() api.WeekFoundry {
	return api.WeekFoundry{
		Shop: api.MetalShop{
			Pot: pot(100, 6, 7, 13, 14), Room: 130, TinPart: span(40, 80), AntimonyPart: span(120, 150),
			Pigs: []api.MetalPig{pig(10, 3, 1, 20, 2)},
		},
		Nights: []api.WeekNight{night(1, 2, 0), night(1, 1, 0), night(1, 2, 0)},
	}
}

func foundryU() api.WeekFoundry {
	return withW(func(f *api.WeekFoundry) { f.Shop.TinPart.High = 70 })
}

func foundryV() api.WeekFoundry { return tested(foundryU(), 2) }

func withW(change func(f *api.WeekFoundry)) api.WeekFoundry { return changed(foundryW(), change) }

// changed returns a copy of a foundry with something changed.
func changed(f api.WeekFoundry, change func(f *api.WeekFoundry)) api.WeekFoundry {
	f = clone(f)
	change(&f)
	return f
}

func clone(f api.WeekFoundry) api.WeekFoundry {
	f.Shop.Pigs, f.Nights = slices.Clone(f.Shop.Pigs), slices.Clone(f.Nights)
	return f
}

// tested returns a foundry with analyses ahead of some nights, too.
func tested(f api.WeekFoundry, nights ...int) api.WeekFoundry {
	return changed(f, func(f *api.WeekFoundry) {
		for _, night := range nights {
			f.Nights[night].Test = 1
		}
	})
}

// largest has as much as a foundry can have of all. Its metal may have too much of tin and of antimony, and all pigs are of lead.
func largest() api.WeekFoundry {
	return api.WeekFoundry{
		Shop: api.MetalShop{
			Pot: pot(400, 36, 200, 0, 200), Room: 999, TinPart: span(0, 250), AntimonyPart: span(0, 250),
			Pigs: []api.MetalPig{pig(40, 0, 0, 99, 5), pig(40, 0, 0, 98, 5), pig(40, 0, 0, 97, 5), pig(40, 0, 0, 96, 5)},
		},
		Nights: slices.Repeat([]api.WeekNight{night(0, 9, 1)}, 4),
	}
}

// someFoundries returns foundries of all sorts, the same at each call.
func someFoundries(many int) []api.WeekFoundry {
	r := rand.New(rand.NewSource(1))
	foundries := []api.WeekFoundry{foundryW(), foundryU(), foundryV(), {}}
	for len(foundries) < many {
		foundries = append(foundries, loose(r), tight(r), tight(r), dull(r))
	}
	return foundries[:many]
}

// loose returns a foundry with pigs of all sorts, whose parts are near to what the metal of a few truths comes to by some plan.
func loose(r *rand.Rand) api.WeekFoundry {
	f := api.WeekFoundry{}
	for range r.Intn(4) {
		low := r.Intn(3)
		f.Nights = append(f.Nights, night(low, low+r.Intn(3), r.Intn(2)))
	}
	f.Shop.Pot = somePot(r, f.Nights)
	f.Shop.Room = f.Shop.Pot.Pounds + r.Intn(40)
	for range r.Intn(5) / 2 {
		p := checks.SomePig(r)
		p.Many = min(p.Many, 2)
		f.Shop.Pigs = append(f.Shop.Pigs, p)
	}
	if len(f.Nights) > 0 {
		all, some := truths(f), plans(f)
		f.Shop.TinPart, f.Shop.AntimonyPart = span(1000, 0), span(1000, 0)
		plan := some[r.Intn(len(some))]
		for range 1 + r.Intn(3) {
			x := all[r.Intn(len(all))]
			for night := range plan {
				m := in(f, x, night, upTo(f, plan, night))
				f.Shop.TinPart, f.Shop.AntimonyPart = with(f.Shop.TinPart, m.tin, m.pounds), with(f.Shop.AntimonyPart, m.antimony, m.pounds)
			}
		}
	}
	f.Shop.TinPart, f.Shop.AntimonyPart = around(r, f.Shop.TinPart), around(r, f.Shop.AntimonyPart)
	return f
}

// with returns a span of parts of a thousand that has what some pounds of others are, too.
func with(s api.Span, some, pounds int) api.Span {
	parts := 1000 * some / max(1, pounds)
	return span(min(s.Low, parts), max(s.High, parts+1))
}

// somePot has enough tin for all that is lost. Its spans are wide at times.
func somePot(r *rand.Rand, nights []api.WeekNight) api.MetalPot {
	wide := []int{1, 2, 3, 10}[r.Intn(4)]
	tin, antimony := r.Intn(5), r.Intn(8)
	for _, n := range nights {
		tin += n.Dross.High
	}
	tins, antimonies := tin+r.Intn(wide), antimony+r.Intn(min(wide, 4))
	return pot(tins+antimonies+r.Intn(60), tin, tins, antimony, antimonies)
}

// around returns a part that has mostly these bounds in it.
func around(r *rand.Rand, s api.Span) api.Span {
	wide := []int{5, 30, 300}[r.Intn(3)]
	low := min(max(0, s.Low-r.Intn(wide)+3), 1000)
	return span(low, min(max(low, s.High+r.Intn(wide)-3), 1000))
}

// tight returns a foundry whose tin must be within a few pounds, though nobody knows how many are lost, with pigs that mend it by one or two. So it is often safe with analyses alone, or for fewer pence.
func tight(r *rand.Rand) api.WeekFoundry {
	f := api.WeekFoundry{}
	for range 2 + r.Intn(2) {
		low := r.Intn(2)
		f.Nights = append(f.Nights, night(low, low+r.Intn(3), r.Intn(2)))
	}
	pounds, tin, antimony := 40+r.Intn(20), 9+r.Intn(3), 4+r.Intn(3)
	f.Shop.Pot = pot(pounds, tin, tin+r.Intn(3), antimony, antimony+r.Intn(2))
	f.Shop.Room = pounds + r.Intn(20)
	low, wide := 1000*(tin-r.Intn(3))/pounds, 1000*(2+r.Intn(4))/pounds
	f.Shop.TinPart = span(low, low+wide)
	f.Shop.AntimonyPart = span(1000*(antimony-r.Intn(2))/pounds-10, 1000*(antimony+1+r.Intn(3))/pounds)
	f.Shop.Pigs = []api.MetalPig{pig(1, 1, 0, r.Intn(20), 1+r.Intn(3))}
	if r.Intn(2) == 0 {
		f.Shop.Pigs = append(f.Shop.Pigs, pig(2, 1+r.Intn(2), 0, r.Intn(20), 1+r.Intn(2)))
	}
	if r.Intn(3) == 0 {
		f.Shop.Pigs = append(f.Shop.Pigs, pig(3+r.Intn(6), 0, r.Intn(2), r.Intn(20), 1+r.Intn(2)))
	}
	return f
}

// dull returns a foundry with the pot and the pigs of M of chapter 1, more or less. Of its metal so little is known that pigs must be added that are not needed in any truth.
func dull(r *rand.Rand) api.WeekFoundry {
	low := 5 + r.Intn(3)
	f := api.WeekFoundry{Shop: api.MetalShop{
		Pot: pot(200, low, low+1+r.Intn(2), 28, 28+r.Intn(3)), Room: 240 + r.Intn(60), TinPart: span(30+r.Intn(12), 55+r.Intn(25)), AntimonyPart: span(110+r.Intn(20), 150+r.Intn(20)),
		Pigs: []api.MetalPig{pig(10, 5, 0, 30, 1+r.Intn(2)), pig(20, 1, 6, 25, r.Intn(3)), pig(25, 0, 0, 5+r.Intn(30), 1+r.Intn(2))},
	}}
	for range 1 + r.Intn(2) {
		f.Nights = append(f.Nights, night(0, r.Intn(3), r.Intn(2)))
	}
	return f
}
