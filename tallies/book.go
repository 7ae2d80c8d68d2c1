package tallies

import (
	"slices"

	"flong/api"
	"flong/machines"
)

// noClash says that tallies can be true together.
const noClash = 0

// book is a given book at work.
type book struct {
	api.TallyBook
}

// plate is of which page and of which bore a plate is; plates that are alike are equal.
type plate struct{ page, bore int }

// named returns the error of a call that names something, which may be right or wrong.
func (b book) named(right bool) api.Errno {
	if !b.valid() {
		return api.ErrTally
	}
	if !right {
		return api.ErrArg
	}
	return api.OK
}

func (b book) valid() bool {
	// Each valid hall has a machine 0, and what it can print can be asked of a set of plates alone.
	_, e := machines.Fit(b.Hall, 0, b.Set)
	return e == api.OK &&
		len(b.Walk) == len(b.Hall.Bores) && !slices.ContainsFunc(b.Walk, func(walk int) bool { return !between(walk, 0, api.MaxTallyWalk) }) &&
		between(b.Boys, 0, api.MaxTallyBoys) &&
		len(b.Tallies) <= api.MaxTallies && !slices.ContainsFunc(b.Tallies, func(t api.Tally) bool { return !b.canSay(t) })
}

// canSay reports whether a tally is one that a valid book can have.
func (b book) canSay(t api.Tally) bool {
	return b.hasBoy(t.Boy) && isPage(t.Page) && b.hasMachine(t.Machine) && isMinute(t.Minute)
}

func (b book) hasTally(tally int) bool     { return between(tally, 0, len(b.Tallies)-1) }
func (b book) hasBoy(boy int) bool         { return between(boy, 0, b.Boys-1) }
func (b book) hasMachine(machine int) bool { return between(machine, 0, len(b.Hall.Bores)-1) }
func (b book) hasEdition(edition int) bool { return between(edition, 0, len(b.Hall.Editions)-1) }

func isPage(page int) bool     { return between(page, 0, api.MaxMachinePages-1) }
func isMinute(minute int) bool { return between(minute, 0, api.MaxTallyMinute) }

func between(n, least, most int) bool {
	return least <= n && n <= most
}

// isList reports whether a list is strictly ascending, of tallies.
func (b book) isList(l []int) bool {
	least := 0
	for _, tally := range l {
		if !between(tally, least, len(b.Tallies)-1) {
			return false
		}
		least = tally + 1
	}
	return true
}

// fitting returns a plate of a page that fits a machine.
func (b book) fitting(page, machine int) plate { return plate{page, b.Hall.Bores[machine]} }

// plate returns the plate of a tally.
func (b book) plate(tally int) plate {
	t := b.Tallies[tally]
	return b.fitting(t.Page, t.Machine)
}

// poured returns how many plates of each page and bore there are.
func (b book) poured() map[plate]int {
	poured := map[plate]int{}
	for _, p := range b.Set {
		poured[plate{p.Page, p.Bore}] = p.Many
	}
	return poured
}

// rushed reports whether two tallies are of the same boy, who cannot have fetched the next plate in between.
func (b book) rushed(one, other int) bool {
	t, u := b.Tallies[one], b.Tallies[other]
	return t.Boy == u.Boy && max(t.Minute, u.Minute)-min(t.Minute, u.Minute) < b.Walk[t.Machine]+b.Walk[u.Machine]
}

// twice reports whether two tallies are of the same page and machine, and so of plates that are alike.
func (b book) twice(one, other int) bool {
	return b.Tallies[one].Machine == b.Tallies[other].Machine && b.plate(one) == b.plate(other)
}

// short reports whether there are too few plates for some tallies.
func (b book) short(tallies ...int) bool {
	left := b.poured()
	for _, tally := range tallies {
		p := b.plate(tally)
		if left[p] == 0 {
			return true
		}
		left[p]--
	}
	return false
}

// clash returns the first reason why some tallies cannot be true together, or noClash.
func (b book) clash(tallies ...int) int {
	switch {
	case someTwo(b.rushed, tallies...):
		return api.TallyBoy
	case someTwo(b.twice, tallies...):
		return api.TallyTwice
	case b.short(tallies...):
		return api.TallyPlates
	}
	return noClash
}

// together reports whether some tallies can be true together.
func (b book) together(tallies ...int) bool { return b.clash(tallies...) == noClash }

// someTwo reports whether something is so of two of some tallies.
func someTwo(is func(one, other int) bool, tallies ...int) bool {
	for i, one := range tallies {
		for _, other := range tallies[:i] {
			if is(one, other) {
				return true
			}
		}
	}
	return false
}
