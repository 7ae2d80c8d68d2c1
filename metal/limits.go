package metal

import (
	"iter"

	"flong/api"
)

// thousand is of how many parts the limits of tin and antimony are parts.
const thousand = 1000

// allowed returns between how many pounds a part of so many pounds of metal has to be; it is empty (Low above High) if no whole number of pounds is.
func allowed(pounds int, part api.Span) api.Span {
	return api.Span{
		Low:  (pounds*part.Low + thousand - 1) / thousand,
		High: pounds * part.High / thousand,
	}
}

// limits yields the numbers of all limits, ascending.
func limits() iter.Seq[int] {
	return func(yield func(int) bool) {
		for limit := api.MetalTinLow; limit <= api.MetalAntimonyHigh; limit++ {
			if !yield(limit) {
				return
			}
		}
	}
}

// keeps reports whether a pot is within a limit in each truth.
func (s shop) keeps(p api.MetalPot, limit int) bool {
	switch limit {
	case api.MetalTinLow:
		return thousand*p.Tin.Low >= p.Pounds*s.TinPart.Low
	case api.MetalTinHigh:
		return thousand*p.Tin.High <= p.Pounds*s.TinPart.High
	case api.MetalAntimonyLow:
		return thousand*p.Antimony.Low >= p.Pounds*s.AntimonyPart.Low
	default:
		return thousand*p.Antimony.High <= p.Pounds*s.AntimonyPart.High
	}
}

// safe returns whether a pot is within all limits. Tin and antimony are what they are whatever the other is, so each of them may be looked at alone.
func (s shop) safe(p api.MetalPot) int {
	tin, antimony := allowed(p.Pounds, s.TinPart), allowed(p.Pounds, s.AntimonyPart)
	if within(p.Tin, tin) && within(p.Antimony, antimony) {
		return api.Surely
	}
	if empty(common(p.Tin, tin)) || empty(common(p.Antimony, antimony)) {
		return api.Never
	}
	return api.Perhaps
}

func within(inner, outer api.Span) bool {
	return outer.Low <= inner.Low && inner.High <= outer.High
}

func common(one, other api.Span) api.Span {
	return api.Span{Low: max(one.Low, other.Low), High: min(one.High, other.High)}
}

func empty(s api.Span) bool { return s.Low > s.High }

// leads returns between how many pounds of lead keep a pot safe, and whether any do. Each limit is kept up to some number of pounds, or from one on, so between two that do all do.
func (s shop) leads(p api.MetalPot) (api.Span, bool) {
	leads, found := api.Span{}, false
	for lead := range s.Room - p.Pounds + 1 {
		more := p
		more.Pounds += lead
		if s.safe(more) != api.Surely {
			continue
		}
		if !found {
			leads.Low, found = lead, true
		}
		leads.High = lead
	}
	return leads, found
}

// keeping counts by how many additions each limit is kept in each truth.
func (s shop) keeping() map[int]int {
	keeping := map[int]int{}
	for add := range s.additions() {
		pot := s.after(add)
		for limit := range limits() {
			if s.keeps(pot, limit) {
				keeping[limit]++
			}
		}
	}
	return keeping
}
