package overseer

import (
	"strings"

	"flong/api"
)

// entry is how an entry reads, and what it changes of a town; it changes nothing, and says so, if there is not that of which it speaks.
type entry struct {
	text   string
	change func(t *api.OverTown) bool
}

// onto returns the town behind an entry, and whether it holds.
func (e entry) onto(t api.OverTown) (api.OverTown, bool) {
	with := t
	if !e.change(&with) || Check(with) != api.OK {
		return t, false
	}
	return with, true
}

// entryOf returns the entry that some words are.
func entryOf(words []string) (entry, bool) {
	form, n, ok := formOf(words)
	if !ok {
		return entry{}, false
	}
	change := houseChange(form, n)
	if change == nil {
		change = shopChange(form, n)
	}
	return entry{strings.Join(words, " "), change}, change != nil
}

// correctionOf returns what a line can be corrected to: an entry, or one that never holds.
func correctionOf(words []string) (entry, bool) {
	if len(words) == 1 && words[0] == "not" {
		return entry{"not", func(*api.OverTown) bool { return false }}, true
	}
	return entryOf(words)
}

// houseChange returns what an entry of a form with these numbers changes of the house; nil if there is no such form.
func houseChange(f form, n []int) func(t *api.OverTown) bool {
	switch f {
	case form{"machine", 3}:
		return func(t *api.OverTown) bool {
			return add(&t.House.Machines, api.TrainMachine{Ready: n[0], Pace: n[1], Stops: n[2]})
		}
	case form{"stops", 2}:
		return func(t *api.OverTown) bool {
			return alter(&t.House.Machines, n[0], func(m *api.TrainMachine) { m.Stops = n[1] })
		}
	case form{"train", 1}:
		return func(t *api.OverTown) bool { return add(&t.House.Trains, n[0]) }
	case form{"leaves", 2}:
		return func(t *api.OverTown) bool { return put(&t.House.Trains, n[0], n[1]) }
	case form{"bundle", 3}:
		return func(t *api.OverTown) bool {
			return add(&t.House.Bundles, api.TrainBundle{Train: n[0], Hundreds: n[1], Edition: n[2]})
		}
	case form{"gap", 1}:
		return func(t *api.OverTown) bool {
			t.House.Change = n[0]
			return true
		}
	}
	return nil
}

// shopChange is the same for the shop.
func shopChange(f form, n []int) func(t *api.OverTown) bool {
	switch f {
	case form{"cast", 1}:
		return func(t *api.OverTown) bool {
			return whole(t.Shop, n[0]) && alter(&t.Shop.Moulds, n[0], func(m *api.FlongMould) { m.Used++ })
		}
	case form{"broke", 1}:
		return func(t *api.OverTown) bool {
			return whole(t.Shop, n[0]) && alter(&t.Shop.Moulds, n[0], func(m *api.FlongMould) { m.Broke = 1 })
		}
	case form{"want", 2}:
		return func(t *api.OverTown) bool { return put(&t.Shop.Wants, n[0], n[1]) }
	}
	return nil
}

// whole reports whether there is a mould that did not break.
func whole(s api.FlongShop, mould int) bool {
	return has(s.Moulds, mould) && s.Moulds[mould].Broke == 0
}
