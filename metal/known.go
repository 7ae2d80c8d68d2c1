package metal

import (
	"cmp"
	"slices"

	"flong/api"
)

// offer is what an addition costs, and in which truths of the pot the metal is within all limits with it.
type offer struct {
	pence         int
	tin, antimony api.Span
}

// known returns between what the cheapest addition costs over all truths, and whether there is one in each of them.
func (s shop) known() (api.Span, bool) {
	offers := s.offers()
	if len(offers) == 0 {
		return api.Span{}, false
	}
	known := api.Span{Low: offers[0].pence}
	for tin := s.Pot.Tin.Low; tin <= s.Pot.Tin.High; tin++ {
		most, ok := s.dearest(offers, tin)
		if !ok {
			return api.Span{}, false
		}
		known.High = max(known.High, most)
	}
	return known, true
}

// offers returns the offers of all additions that do in some truth, the cheapest first.
func (s shop) offers() []offer {
	var offers []offer
	for add := range s.additions() {
		all := s.Pot.Pounds + s.total(add, poundsOf)
		o := offer{
			pence:    s.total(add, penceOf),
			tin:      common(s.Pot.Tin, moved(allowed(all, s.TinPart), -s.total(add, tinOf))),
			antimony: common(s.Pot.Antimony, moved(allowed(all, s.AntimonyPart), -s.total(add, antimonyOf))),
		}
		if !empty(o.tin) && !empty(o.antimony) {
			offers = append(offers, o)
		}
	}
	slices.SortFunc(offers, func(one, other offer) int { return cmp.Compare(one.pence, other.pence) })
	return offers
}

// dearest returns the most that the cheapest offer costs over all truths with so much tin, and whether each of them has an offer. As the cheapest offers come first, it is what that one costs by which the last of these truths gets one.
func (s shop) dearest(offers []offer, tin int) (int, bool) {
	low := s.Pot.Antimony.Low
	met := make([]bool, s.Pot.Antimony.High-low+1)
	open := len(met)
	for _, o := range offers {
		if !between(tin, o.tin.Low, o.tin.High) {
			continue
		}
		for antimony := o.antimony.Low; antimony <= o.antimony.High; antimony++ {
			if !met[antimony-low] {
				met[antimony-low] = true
				open--
			}
		}
		if open == 0 {
			return o.pence, true
		}
	}
	return 0, false
}
