package metal

import (
	"iter"
	"slices"

	"flong/api"
)

// shop is a given shop at work.
type shop struct {
	api.MetalShop
}

// asked returns the error of a call with a list that is to be an addition.
func (s shop) asked(add []int) api.Errno {
	if !s.valid() {
		return api.ErrMetal
	}
	if !s.isAddition(add) {
		return api.ErrArg
	}
	return api.OK
}

func (s shop) valid() bool {
	if !validPot(s.Pot) || s.Room < s.Pot.Pounds || s.Room > api.MaxMetalRoom {
		return false
	}
	if !validSpan(s.TinPart, thousand) || !validSpan(s.AntimonyPart, thousand) {
		return false
	}
	if len(s.Pigs) > api.MaxMetalPigs {
		return false
	}
	for _, p := range s.Pigs {
		if !validPig(p) {
			return false
		}
	}
	return true
}

// validPot looks at each number before it adds any, as a sum of any numbers may not fit an int.
func validPot(p api.MetalPot) bool {
	return between(p.Pounds, 0, api.MaxMetalPounds) &&
		validSpan(p.Tin, p.Pounds) && validSpan(p.Antimony, p.Pounds) &&
		p.Tin.High+p.Antimony.High <= p.Pounds
}

func validPig(p api.MetalPig) bool {
	return between(p.Pounds, 1, api.MaxMetalPig) &&
		between(p.Tin, 0, p.Pounds) && between(p.Antimony, 0, p.Pounds) &&
		p.Tin+p.Antimony <= p.Pounds &&
		between(p.Pence, 0, api.MaxMetalPence) && between(p.Many, 0, api.MaxMetalMany)
}

func validSpan(s api.Span, most int) bool {
	return 0 <= s.Low && s.Low <= s.High && s.High <= most
}

func between(n, least, most int) bool {
	return least <= n && n <= most
}

func (s shop) isAddition(add []int) bool {
	if len(add) != len(s.Pigs) {
		return false
	}
	for kind, n := range add {
		if !between(n, 0, s.Pigs[kind].Many) {
			return false
		}
	}
	return s.hasRoom(add)
}

func (s shop) hasRoom(add []int) bool {
	return s.Pot.Pounds+s.total(add, poundsOf) <= s.Room
}

func poundsOf(p api.MetalPig) int   { return p.Pounds }
func tinOf(p api.MetalPig) int      { return p.Tin }
func antimonyOf(p api.MetalPig) int { return p.Antimony }
func penceOf(p api.MetalPig) int    { return p.Pence }

// total returns what is asked of each pig, for all pigs of an addition together.
func (s shop) total(add []int, ask func(p api.MetalPig) int) int {
	sum := 0
	for kind, n := range add {
		sum += n * ask(s.Pigs[kind])
	}
	return sum
}

// after returns the pot with an addition.
func (s shop) after(add []int) api.MetalPot {
	return api.MetalPot{
		Pounds:   s.Pot.Pounds + s.total(add, poundsOf),
		Tin:      moved(s.Pot.Tin, s.total(add, tinOf)),
		Antimony: moved(s.Pot.Antimony, s.total(add, antimonyOf)),
	}
}

func moved(s api.Span, by int) api.Span {
	return api.Span{Low: s.Low + by, High: s.High + by}
}

// additions yields all additions, lesser lists first. It goes on with the list that it yields, so who keeps one keeps a copy.
func (s shop) additions() iter.Seq[[]int] {
	return func(yield func([]int) bool) {
		add := make([]int, len(s.Pigs))
		for more := true; more; more = s.next(add) {
			if s.hasRoom(add) && !yield(add) {
				return
			}
		}
	}
}

// next makes the next greater list of a list of numbers of pigs; it reports whether there is one.
func (s shop) next(add []int) bool {
	for kind := len(add) - 1; kind >= 0; kind-- {
		if add[kind] < s.Pigs[kind].Many {
			add[kind]++
			return true
		}
		add[kind] = 0
	}
	return false
}

// safest returns the safe addition of which what is asked is the least, and this least number; of several additions the least list.
func (s shop) safest(ask func(add []int) int) ([]int, int, api.Errno) {
	if !s.valid() {
		return nil, 0, api.ErrMetal
	}
	var best []int
	least, found := 0, false
	for add := range s.additions() {
		if s.safe(s.after(add)) != api.Surely {
			continue
		}
		if n := ask(add); !found || n < least {
			best, least, found = slices.Clone(add), n, true
		}
	}
	if !found {
		return nil, 0, api.ErrNone
	}
	return best, least, api.OK
}
