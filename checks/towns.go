package checks

import (
	"slices"
	"strconv"
	"strings"

	"flong/api"
)

// Dice is what is needed of a *rand.Rand: a package that is not a test may not import package rand.
type Dice interface {
	Intn(n int) int
}

// Town returns the town of the examples of chapter 12.
func Town() api.OverTown {
	return api.OverTown{
		House: api.TrainHouse{
			Machines: []api.TrainMachine{{Ready: 0, Pace: 2}, {Ready: 5, Pace: 3}},
			Bundles:  []api.TrainBundle{{Train: 0, Hundreds: 4}, {Train: 1, Hundreds: 3}, {Train: 1, Hundreds: 5, Edition: 1}},
			Trains:   []int{10, 31}, Change: 2,
		},
		Shop: api.FlongShop{
			Moulds: []api.FlongMould{{Page: 0, Used: 3}, {Page: 0, Used: 5}, {Page: 1, Used: 2, Broke: 1}, {Page: 1}},
			Worlds: [][]int{{8, 9, 2, 4}, {6, 9, 2, 6}, {12, 7, 2, 3}, {9, 9, 4, 9}},
			Wants:  []int{5, 3}, Fresh: 6,
		},
	}
}

// CopyTown returns a town that shares no memory with a given one.
func CopyTown(t api.OverTown) api.OverTown {
	return api.OverTown{House: CopyHouse(t.House), Shop: CopyShop(t.Shop)}
}

// CopyHouse returns a house that shares no memory with a given one.
func CopyHouse(h api.TrainHouse) api.TrainHouse {
	h.Machines, h.Bundles, h.Trains = slices.Clone(h.Machines), slices.Clone(h.Bundles), slices.Clone(h.Trains)
	return h
}

// CopyShop returns a shop that shares no memory with a given one.
func CopyShop(s api.FlongShop) api.FlongShop {
	s.Moulds, s.Worlds, s.Wants = slices.Clone(s.Moulds), slices.Clone(s.Worlds), slices.Clone(s.Wants)
	for world, lasts := range s.Worlds {
		s.Worlds[world] = slices.Clone(lasts)
	}
	return s
}

// SameTown reports whether two towns are equal.
func SameTown(one, other api.OverTown) bool {
	return SameHouse(one.House, other.House) && SameShop(one.Shop, other.Shop)
}

// SameHouse reports whether two houses are equal.
func SameHouse(one, other api.TrainHouse) bool {
	return slices.Equal(one.Machines, other.Machines) && slices.Equal(one.Bundles, other.Bundles) &&
		slices.Equal(one.Trains, other.Trains) && one.Change == other.Change
}

// SameShop reports whether two shops are equal.
func SameShop(one, other api.FlongShop) bool {
	return slices.Equal(one.Moulds, other.Moulds) && slices.EqualFunc(one.Worlds, other.Worlds, slices.Equal[[]int]) &&
		slices.Equal(one.Wants, other.Wants) && one.Fresh == other.Fresh
}

// SomeTown returns a valid town that is not full, with so many bundles at the most.
func SomeTown(d Dice, bundles int) api.OverTown {
	return api.OverTown{House: someHouse(d, bundles), Shop: someShop(d)}
}

// someHouse has trains that leave about when their bundles are printed by some plan; so a line can make a sure house unsure, and the other way around.
func someHouse(d Dice, bundles int) api.TrainHouse {
	h := api.TrainHouse{Change: d.Intn(4)}
	var free []int
	for range 1 + d.Intn(3)/2 + d.Intn(3)/2 {
		m := api.TrainMachine{Ready: d.Intn(6), Pace: 1 + d.Intn(3), Stops: d.Intn(4) / 3}
		h.Machines, free = append(h.Machines, m), append(free, m.Ready)
	}
	h.Trains = make([]int, 1+d.Intn(3))
	for range d.Intn(bundles + 1) {
		b := api.TrainBundle{Train: d.Intn(len(h.Trains)), Hundreds: 1 + d.Intn(3), Edition: d.Intn(2)}
		h.Bundles = append(h.Bundles, b)
		on := d.Intn(len(free))
		free[on] += b.Hundreds*h.Machines[on].Pace + d.Intn(h.Change+1)
		h.Trains[b.Train] = max(h.Trains[b.Train], free[on]+d.Intn(4))
	}
	return h
}

// someShop has moulds of which mostly some more plates can be cast; so its worlds disagree one by one.
func someShop(d Dice) api.FlongShop {
	s := api.FlongShop{Fresh: 1 + d.Intn(6)}
	for range d.Intn(4) {
		s.Wants = append(s.Wants, d.Intn(6))
	}
	if len(s.Wants) > 0 {
		for range d.Intn(5) {
			s.Moulds = append(s.Moulds, api.FlongMould{Page: d.Intn(len(s.Wants)), Used: d.Intn(4), Broke: d.Intn(5) / 4})
		}
	}
	for range d.Intn(6) {
		var lasts []int
		for _, m := range s.Moulds {
			lasts = append(lasts, m.Used+d.Intn(5)*(1-m.Broke))
		}
		s.Worlds = append(s.Worlds, lasts)
	}
	return s
}

// SomeLines returns lines of a night overseer's book of all sorts: many entries that hold, and some of all else.
func SomeLines(d Dice, many int) []string {
	var lines, entries []string
	for len(lines) < many {
		switch n := d.Intn(20); {
		case n < 10 || len(entries) == 0:
			entries = append(entries, strconv.Itoa(len(lines)))
			lines = append(lines, SomeEntry(d))
		case n < 13:
			lines = append(lines, SomeQuestion(d))
		case n < 14:
			lines = append(lines, "at "+someNumber(d, len(lines)+1)+" "+SomeQuestion(d))
		case n < 15:
			lines = append(lines, "reads "+one(d, entries...))
		case n < 18:
			lines = append(lines, SomeCorrection(d, one(d, entries...)))
		case n < 19:
			lines = append(lines, SomeCorrection(d, someNumber(d, len(lines)+1)))
		default:
			lines = append(lines, SomeUnclear(d))
		}
	}
	return lines
}

// SomeEntry returns an entry that mostly holds in a town that is not full.
func SomeEntry(d Dice) string {
	if d.Intn(2) == 0 {
		return SomeHouseEntry(d)
	}
	return SomeShopEntry(d)
}

// SomeHouseEntry returns an entry that changes the house.
func SomeHouseEntry(d Dice) string {
	switch d.Intn(6) {
	case 0:
		return join("machine", someNumber(d, 12), one(d, "1", "2", "3", "0"), someNumber(d, 2))
	case 1:
		return join("stops", someNumber(d, 3), someNumber(d, 2))
	case 2:
		return join("train", someNumber(d, 40))
	case 3:
		return join("leaves", someNumber(d, 4), someNumber(d, 40))
	case 4:
		return join("bundle", someNumber(d, 4), one(d, "1", "2", "3", "9"), someNumber(d, 3))
	}
	return join("gap", someNumber(d, 4))
}

// SomeShopEntry returns an entry that changes the shop.
func SomeShopEntry(d Dice) string {
	switch d.Intn(5) {
	case 0:
		return join("broke", someNumber(d, 4))
	case 1:
		return join("want", someNumber(d, 3), someNumber(d, 13))
	}
	return join("cast", someNumber(d, 4))
}

// SomeQuestion returns a question, but for at and reads.
func SomeQuestion(d Dice) string {
	switch n := d.Intn(9); n {
	case 0:
		return join("wait", someNumber(d, 4))
	case 1:
		return join("left", someNumber(d, 4))
	default:
		return []string{"sure", "fewest", "told", "spare", "new", "worlds", "test"}[n-2]
	}
}

// SomeCorrection returns a correction of a line.
func SomeCorrection(d Dice, number string) string {
	if d.Intn(3) == 0 {
		return join("line", number, "is not")
	}
	return join("line", number, "is", SomeEntry(d))
}

// SomeUnclear returns a line that is not clear.
func SomeUnclear(d Dice) string {
	return one(d, "sail", "", " ", "sure ", " sure", "cast  0", "cast 00", "train +9", "gap -0", "cast", "cast 0 0", "line 0 is sure", "line 0 is", "at 0 reads 0", "reads", "not", "Sure")
}

// someNumber returns mostly a number below this one, and sometimes one that is not of anything.
func someNumber(d Dice, below int) string {
	switch d.Intn(25) {
	case 0:
		return strconv.Itoa(below)
	case 1:
		return one(d, "-1", "99", "100", "999999", "-999999", "12", "13")
	}
	return strconv.Itoa(d.Intn(below))
}

func one(d Dice, words ...string) string { return words[d.Intn(len(words))] }

func join(words ...string) string { return strings.Join(words, " ") }
