package weeks

import (
	"slices"

	"flong/api"
)

// none is what is counted where there is no safe way to choose. It is more than pence, or nights, ever are.
const none = 1 << 30

// search looks for the safe way to choose by which the least is counted, in the truth in which it is the most.
type search struct {
	week
	lists  [][]int             // all lists of numbers of pigs, ascending; they are known by their places
	limits [][]metals          // what is allowed, by the pounds that are lost, and the list that is added up to then
	pigs   []int               // what is counted for all pigs of each list
	adds   func(count int) int // what is counted from a night on, on which something is added, if this is counted but for that
	seen   map[known][]int
}

// known is what is known ahead of a night, with its analysis if there is one.
type known struct {
	night int
	lost  api.Span
	first metals
}

// byPence returns a search that counts the pence of all pigs.
func (w week) byPence() search {
	pence := func(add []int) int {
		sum := 0
		for kind, n := range add {
			sum += n * w.Shop.Pigs[kind].Pence
		}
		return sum
	}
	return w.search(pence, func(pence int) int { return pence })
}

// byNights returns a search that counts the nights on which something is added.
func (w week) byNights() search {
	return w.search(func([]int) int { return 0 }, func(nights int) int { return nights + 1 })
}

func (w week) search(pigs func(add []int) int, adds func(count int) int) search {
	s := search{week: w, lists: w.pigLists(), adds: adds, seen: map[known][]int{}}
	for _, add := range s.lists {
		s.pigs = append(s.pigs, pigs(add))
	}
	for _, lost := range w.nights() {
		for len(s.limits) <= lost.High {
			s.limits = append(s.limits, s.limitsOf(len(s.limits)))
		}
	}
	return s
}

// limitsOf returns what is allowed once so many pounds are lost, by the list that is added up to then.
func (s search) limitsOf(lost int) []metals {
	var limits []metals
	for _, add := range s.lists {
		limits = append(limits, s.allowed(lost, add))
	}
	return limits
}

// pigLists returns all lists with a number for each kind of pig, from 0 to its Many, ascending.
func (w week) pigLists() [][]int {
	lists := [][]int{nil}
	for _, p := range w.Shop.Pigs {
		var longer [][]int
		for _, l := range lists {
			for n := range p.Many + 1 {
				longer = append(longer, append(slices.Clone(l), n))
			}
		}
		lists = longer
	}
	return lists
}

// start returns what is known ahead of all nights.
func (s search) start() known {
	return known{first: s.first()}
}

// behind returns what is known behind a night.
func (s search) behind(k known) known {
	return known{k.night + 1, sum(k.lost, s.Nights[k.night].Dross), k.first}
}

// safe reports whether the metal is surely within all limits on a night, with what is added up to then.
func (s search) safe(k known, at int) bool {
	return within(k.first, s.limits[k.lost.Low][at]) && within(k.first, s.limits[k.lost.High][at])
}

// least returns what is counted by the best way to choose.
func (s search) least() (int, api.Errno) {
	if count := s.count(s.start())[0]; count < none {
		return count, api.OK
	}
	return 0, api.ErrNone
}

// count returns, for each list that may have been added ahead of a night, what is counted in all by the best way to choose from then on.
func (s search) count(k known) []int {
	if k.night == len(s.Nights) {
		return s.pigs
	}
	counts, ok := s.seen[k]
	if !ok {
		counts = s.look(k)
		s.seen[k] = counts
	}
	return counts
}

func (s search) look(k known) []int {
	switch test := s.Nights[k.night].Test == 1; {
	case test && !(single(k.first.tin) && single(k.first.antimony)):
		return s.eachTruth(k)
	case test && !single(k.lost):
		return s.eachLoss(k)
	}
	return s.choose(k)
}

// choose counts from a night on of which nothing more becomes known.
func (s search) choose(k known) []int {
	behind := s.count(s.behind(k))
	counts := make([]int, len(s.lists))
	for at := range s.lists {
		counts[at] = none
		if s.safe(k, at) {
			counts[at] = behind[at]
		}
	}
	for at, more := range s.lowest(counts) {
		counts[at] = min(counts[at], s.adds(more))
	}
	return counts
}

// lowest returns for each list the least count of all lists that have at least as many of each kind.
func (s search) lowest(counts []int) []int {
	lowest := slices.Clone(counts)
	// step is how far a list is from the one that has one pig more of the kind.
	step := 1
	for kind, p := range slices.Backward(s.Shop.Pigs) {
		for at := len(lowest) - 1; at >= 0; at-- {
			if s.lists[at][kind] < p.Many {
				lowest[at] = min(lowest[at], lowest[at+step])
			}
		}
		step *= p.Many + 1
	}
	return lowest
}
