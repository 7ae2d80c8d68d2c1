package flongs

import (
	"iter"
	"slices"
)

// justEnough yields all shares that are just enough, lesser lists first. It goes on with the list that it yields, so who keeps one keeps a copy.
func (s shop) justEnough() iter.Seq[[]int] {
	return func(yield func([]int) bool) {
		s.share(make([]int, 0, len(s.Moulds)), slices.Clone(s.Wants), yield)
	}
}

// share yields all shares that begin with some numbers, of which so many plates of each page are still wanted behind these; it reports whether more are asked for.
func (s shop) share(begun, wanted []int, yield func([]int) bool) bool {
	mould := len(begun)
	if mould == len(s.Moulds) {
		return slices.ContainsFunc(wanted, above0) || yield(begun)
	}
	page := s.Moulds[mould].Page
	for n := range min(s.mostOf(mould), wanted[page]) + 1 {
		wanted[page] -= n
		more := s.share(append(begun, n), wanted, yield)
		wanted[page] += n
		if !more {
			return false
		}
	}
	return true
}

func above0(n int) bool { return n > 0 }

// greatest returns those of all shares of which what is asked is the greatest, the first of several, this number, and whether there are any.
func greatest(all iter.Seq[[]int], ask func(shares []int) int) ([]int, int, bool) {
	var best []int
	most, found := 0, false
	for shares := range all {
		if n := ask(shares); !found || n > most {
			best, most, found = slices.Clone(shares), n, true
		}
	}
	return best, most, found
}
