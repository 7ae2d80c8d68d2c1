package metal_test

import (
	"slices"

	"flong/api"
	"flong/checks"
)

// What the chapter says, word by word: each truth and each addition is looked at.

type truth struct{ tin, antimony int }

func truths(p api.MetalPot) []truth {
	var all []truth
	for tin := p.Tin.Low; tin <= p.Tin.High; tin++ {
		for antimony := p.Antimony.Low; antimony <= p.Antimony.High; antimony++ {
			all = append(all, truth{tin, antimony})
		}
	}
	return all
}

// in returns the shop as it is known to be in a truth.
func in(s api.MetalShop, t truth) api.MetalShop {
	return changed(s, func(s *api.MetalShop) {
		s.Pot.Tin, s.Pot.Antimony = span(t.tin, t.tin), span(t.antimony, t.antimony)
	})
}

func sum(s api.MetalShop, add []int) (pounds, tin, antimony, pence int) {
	for kind, n := range add {
		p := s.Pigs[kind]
		pounds += n * p.Pounds
		tin += n * p.Tin
		antimony += n * p.Antimony
		pence += n * p.Pence
	}
	return
}

func additions(s api.MetalShop) [][]int {
	lists := [][]int{nil}
	for _, p := range s.Pigs {
		var longer [][]int
		for _, l := range lists {
			for n := 0; n <= p.Many; n++ {
				longer = append(longer, append(slices.Clone(l), n))
			}
		}
		lists = longer
	}
	return slices.DeleteFunc(lists, func(l []int) bool {
		pounds, _, _, _ := sum(s, l)
		return s.Pot.Pounds+pounds > s.Room
	})
}

// kept returns which limits the metal is within in a truth, with an addition and some pounds of lead.
func kept(s api.MetalShop, add []int, lead int, t truth) [5]bool {
	pounds, tin, antimony, _ := sum(s, add)
	all := s.Pot.Pounds + pounds + lead
	tin += t.tin
	antimony += t.antimony
	return [5]bool{
		api.MetalTinLow:       1000*tin >= all*s.TinPart.Low,
		api.MetalTinHigh:      1000*tin <= all*s.TinPart.High,
		api.MetalAntimonyLow:  1000*antimony >= all*s.AntimonyPart.Low,
		api.MetalAntimonyHigh: 1000*antimony <= all*s.AntimonyPart.High,
	}
}

func keptAll(s api.MetalShop, add []int, lead int, t truth) bool {
	return kept(s, add, lead, t) == [5]bool{false, true, true, true, true}
}

func wantSafe(s api.MetalShop, add []int, lead int) int {
	yes, no := false, false
	for _, t := range truths(s.Pot) {
		if keptAll(s, add, lead, t) {
			yes = true
		} else {
			no = true
		}
	}
	return checks.Known(yes, no)
}

func wantFails(s api.MetalShop, add []int) []int {
	var fails []int
	for limit := 1; limit <= 4; limit++ {
		if slices.ContainsFunc(truths(s.Pot), func(t truth) bool { return !kept(s, add, 0, t)[limit] }) {
			fails = append(fails, limit)
		}
	}
	return fails
}

func wantLead(s api.MetalShop, add []int) (api.Span, bool) {
	pounds, _, _, _ := sum(s, add)
	leads, found := api.Span{}, false
	for lead := 0; s.Pot.Pounds+pounds+lead <= s.Room; lead++ {
		if wantSafe(s, add, lead) == api.Surely {
			if !found {
				leads.Low = lead
			}
			leads.High, found = lead, true
		}
	}
	return leads, found
}

func wantShort(s api.MetalShop) []int {
	short := []int{1, 2, 3, 4}
	for _, add := range additions(s) {
		fails := wantFails(s, add)
		short = slices.DeleteFunc(short, func(limit int) bool { return !slices.Contains(fails, limit) })
	}
	return short
}

// mended is what the safe additions of a shop come to, if there are any.
type mended struct {
	some       bool
	cheap, tin int
	mend       []int
}

func wantMended(s api.MetalShop) mended {
	best, bestPounds := mended{}, 0
	for _, add := range additions(s) {
		if wantSafe(s, add, 0) != api.Surely {
			continue
		}
		pounds, tin, _, pence := sum(s, add)
		better := slices.Compare([]int{pence, pounds}, []int{best.cheap, bestPounds})
		if better == 0 {
			better = slices.Compare(add, best.mend)
		}
		if !best.some || better < 0 {
			best.cheap, best.mend, bestPounds = pence, add, pounds
		}
		if !best.some || tin < best.tin {
			best.tin = tin
		}
		best.some = true
	}
	return best
}

func wantKnown(s api.MetalShop) (api.Span, bool) {
	var costs []int
	adds := additions(s)
	for _, t := range truths(s.Pot) {
		cheap := -1
		for _, add := range adds {
			if _, _, _, pence := sum(s, add); keptAll(s, add, 0, t) && (cheap < 0 || pence < cheap) {
				cheap = pence
			}
		}
		if cheap < 0 {
			return api.Span{}, false
		}
		costs = append(costs, cheap)
	}
	return span(slices.Min(costs), slices.Max(costs)), true
}
