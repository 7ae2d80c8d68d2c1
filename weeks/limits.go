package weeks

import (
	"flong/api"
	"flong/metal"
)

// thousand is of how many parts the limits of tin and antimony are parts.
const thousand = 1000

// metals is between how many pounds of tin, and of antimony, were in the pot at first. Limits are put in these terms, too, as what was there at first is the same on each night of a truth.
type metals struct {
	tin, antimony api.Span
}

// first returns what is known ahead of all nights.
func (w week) first() metals {
	return metals{w.Shop.Pot.Tin, w.Shop.Pot.Antimony}
}

// allowed returns what must have been in the pot at first for the metal to be within all limits, once so many pounds are lost and so much is added; nothing is allowed if there is no room.
func (w week) allowed(lost int, added []int) metals {
	s := w.less(lost)
	p, e := metal.After(s, added)
	if e != api.OK {
		nothing := api.Span{Low: 1, High: 0}
		return metals{nothing, nothing}
	}
	return metals{
		tin:      moved(partOf(p.Pounds, s.TinPart), w.Shop.Pot.Tin.Low-p.Tin.Low),
		antimony: moved(partOf(p.Pounds, s.AntimonyPart), w.Shop.Pot.Antimony.Low-p.Antimony.Low),
	}
}

// partOf returns between how many pounds a part of so many pounds is; it is empty (Low above High) if no whole number of pounds is.
func partOf(pounds int, part api.Span) api.Span {
	return api.Span{Low: (pounds*part.Low + thousand - 1) / thousand, High: pounds * part.High / thousand}
}

// fails returns all nights on which the metal is not within all limits in some truth, by what is added up to each.
func (w week) fails(added [][]int) []int {
	var fails []int
	for night, lost := range w.nights() {
		// Each limit is kept up to some number of pounds that are lost, or from one on, so those in between need not be looked at.
		if !within(w.first(), w.allowed(lost.Low, added[night])) || !within(w.first(), w.allowed(lost.High, added[night])) {
			fails = append(fails, night)
		}
	}
	return fails
}

// can reports whether in some truth the metal is within all limits from a night on, if so many pounds are lost ahead of it.
func (w week) can(night, lost int, first metals, added [][]int) bool {
	if empty(first.tin) || empty(first.antimony) {
		return false
	}
	if night == len(w.Nights) {
		return true
	}
	allowed := w.allowed(lost, added[night])
	first = metals{common(first.tin, allowed.tin), common(first.antimony, allowed.antimony)}
	dross := w.Nights[night].Dross
	for gone := dross.Low; gone <= dross.High; gone++ {
		if w.can(night+1, lost+gone, first, added) {
			return true
		}
	}
	return false
}

// within reports whether all that may have been in the pot is allowed.
func within(first, allowed metals) bool {
	return inside(first.tin, allowed.tin) && inside(first.antimony, allowed.antimony)
}

func inside(inner, outer api.Span) bool {
	return outer.Low <= inner.Low && inner.High <= outer.High
}

func common(one, other api.Span) api.Span {
	return api.Span{Low: max(one.Low, other.Low), High: min(one.High, other.High)}
}

func sum(one, other api.Span) api.Span {
	return api.Span{Low: one.Low + other.Low, High: one.High + other.High}
}

func moved(s api.Span, by int) api.Span {
	return api.Span{Low: s.Low + by, High: s.High + by}
}

func empty(s api.Span) bool { return s.Low > s.High }

// single reports whether a span is one number alone.
func single(s api.Span) bool { return s.Low == s.High }

func one(n int) api.Span { return api.Span{Low: n, High: n} }
