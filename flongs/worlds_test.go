package flongs_test

import (
	"slices"

	"flong/api"
	"flong/checks"
)

// What the chapter says, word by word: each world and each list of shares is looked at.

func wantWorlds(s api.FlongShop) []int {
	var worlds []int
	for world, lasts := range s.Worlds {
		agrees := true
		for i, m := range s.Moulds {
			if m.Broke == 1 && lasts[i] != m.Used || m.Broke == 0 && lasts[i] < m.Used {
				agrees = false
			}
		}
		if agrees {
			worlds = append(worlds, world)
		}
	}
	return worlds
}

func leftIn(s api.FlongShop, world, mould int) int {
	if s.Moulds[mould].Broke == 1 {
		return 0
	}
	return s.Worlds[world][mould] - s.Moulds[mould].Used
}

func leftsOf(s api.FlongShop, mould int) []int {
	var lefts []int
	for _, world := range wantWorlds(s) {
		lefts = append(lefts, leftIn(s, world, mould))
	}
	return lefts
}

// allShares returns all shares of a shop, the least list first.
func allShares(s api.FlongShop) [][]int {
	lists := [][]int{nil}
	for _, m := range s.Moulds {
		most := api.MaxFlongCasts
		if m.Broke == 1 {
			most = 0
		}
		var longer [][]int
		for _, l := range lists {
			for n := 0; n <= most; n++ {
				longer = append(longer, append(slices.Clone(l), n))
			}
		}
		lists = longer
	}
	return lists
}

func holdIn(s api.FlongShop, shares []int, world int) bool {
	for i, n := range shares {
		if n > leftIn(s, world, i) {
			return false
		}
	}
	return true
}

// wantHolding returns in how many worlds that agree shares hold.
func wantHolding(s api.FlongShop, shares []int) int {
	n := 0
	for _, world := range wantWorlds(s) {
		if holdIn(s, shares, world) {
			n++
		}
	}
	return n
}

func surelyHold(s api.FlongShop, shares []int) bool {
	return wantHolding(s, shares) == len(wantWorlds(s))
}

func wantHolds(s api.FlongShop, shares []int) int {
	hold := wantHolding(s, shares)
	return checks.Known(hold > 0, hold < len(wantWorlds(s)))
}

// wantChance looks for the least Den by which the part can be said.
func wantChance(s api.FlongShop, shares []int) api.Ratio {
	worlds := len(wantWorlds(s))
	for den := 1; ; den++ {
		if n := wantHolding(s, shares) * den; n%worlds == 0 {
			return api.Ratio{Num: n / worlds, Den: den}
		}
	}
}

func wantFails(s api.FlongShop, shares []int) []int {
	var fails []int
	for i, n := range shares {
		if slices.ContainsFunc(leftsOf(s, i), func(left int) bool { return n > left }) {
			fails = append(fails, i)
		}
	}
	return fails
}

// plates returns how many plates of each page shares come to.
func plates(s api.FlongShop, shares []int) []int {
	sums := make([]int, len(s.Wants))
	for i, n := range shares {
		sums[s.Moulds[i].Page] += n
	}
	return sums
}

// planned is what all shares of a shop come to; a list is nil if there is none.
type planned struct {
	sure, divide, bold []int
	divides, bolds     bool
	fresh              int
}

func wantPlanned(s api.FlongShop) planned {
	p := planned{sure: make([]int, len(s.Wants)), fresh: -1}
	spared, holding := 0, 0
	for _, shares := range allShares(s) {
		sums, surely := plates(s, shares), surelyHold(s, shares)
		if surely {
			for page, n := range sums {
				p.sure[page] = max(p.sure[page], n)
			}
			if n := wantNew(s, sums); p.fresh < 0 || n < p.fresh {
				p.fresh = n
			}
		}
		if !slices.Equal(sums, s.Wants) {
			continue
		}
		if n := wantSpared(s, shares); surely && (!p.divides || n > spared) {
			p.divides, p.divide, spared = true, shares, n
		}
		if n := wantHolding(s, shares); !p.bolds || n > holding {
			p.bolds, p.bold, holding = true, shares, n
		}
	}
	return p
}

// wantNew beats new moulds one by one until so many plates of each page are enough.
func wantNew(s api.FlongShop, sums []int) int {
	n := 0
	for page, want := range s.Wants {
		for sum := sums[page]; sum < want; sum += s.Fresh {
			n++
		}
	}
	return n
}

func wantSpared(s api.FlongShop, shares []int) int {
	var spared []int
	for i, n := range shares {
		if n > 0 {
			spared = append(spared, slices.Min(leftsOf(s, i))-n)
		}
	}
	if len(spared) == 0 {
		return 0
	}
	return slices.Min(spared)
}

// tried returns in how many worlds that agree one more cast of a mould fails, and in how many it does not.
func tried(s api.FlongShop, mould int) (fails, casts int) {
	for _, left := range leftsOf(s, mould) {
		if left == 0 {
			fails++
		} else {
			casts++
		}
	}
	return
}

func wantTest(s api.FlongShop) (int, bool) {
	best, worlds := -1, 0
	for i := range s.Moulds {
		fails, casts := tried(s, i)
		if fails > 0 && casts > 0 && (best < 0 || max(fails, casts) < worlds) {
			best, worlds = i, max(fails, casts)
		}
	}
	return best, best >= 0
}
