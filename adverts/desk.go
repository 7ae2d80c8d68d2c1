package adverts

import (
	"slices"

	"flong/api"
)

// desk bills the advertisements of a book with some lines.
type desk struct {
	book
	lines []int
}

// account is what some standings that are billed come to: how many lines are under each contract, whether it is bought, and what all that costs.
type account struct {
	under  [api.MaxAdContracts]int
	bought [api.MaxAdContracts]bool
	pence  int
}

// billing is the contract of each standing, or api.AdSingle, and what that costs.
type billing struct {
	contracts []int
	pence     int
}

// with returns an account with one more standing, under a contract of the book or single, and whether it can be.
func (d desk) with(a account, s api.AdDay, contract int) (account, bool) {
	lines := d.lines[s.Ad]
	if contract == api.AdSingle {
		a.pence += lines * d.price(s)
		return a, true
	}
	c := d.Contracts[contract]
	a.under[contract] += lines
	if !between(s.Day, c.From, c.From+c.Days-1) || a.under[contract] > c.Room {
		return account{}, false
	}
	// A contract is bought even if no lines are under it.
	if !a.bought[contract] {
		a.bought[contract] = true
		a.pence += c.Pence
	}
	return a, true
}

// cost returns what a list of any numbers costs if it is a billing, and ErrNone otherwise.
func (d desk) cost(contracts []int) (int, api.Errno) {
	standings := d.standings()
	if len(contracts) != len(standings) {
		return 0, api.ErrNone
	}
	var a account
	for place, s := range standings {
		if contracts[place] != api.AdSingle && !d.hasContract(contracts[place]) {
			return 0, api.ErrNone
		}
		more, ok := d.with(a, s, contracts[place])
		if !ok {
			return 0, api.ErrNone
		}
		a = more
	}
	return a.pence, api.OK
}

// best returns the first one of the best billings.
func (d desk) best() billing {
	standings := d.standings()
	contracts := make([]int, len(standings))
	var best billing
	found := false
	var bill func(place int, a account)
	bill = func(place int, a account) {
		// The lesser lists come first, so a later one must cost less.
		if found && a.pence >= best.pence {
			return
		}
		if place == len(standings) {
			best, found = billing{slices.Clone(contracts), a.pence}, true
			return
		}
		for contract := api.AdSingle; contract < len(d.Contracts); contract++ {
			if more, ok := d.with(a, standings[place], contract); ok {
				contracts[place] = contract
				bill(place+1, more)
			}
		}
	}
	bill(0, account{})
	return best
}

// bought returns all contracts under which there is some standing by the first one of the best billings.
func (d desk) bought() []int {
	bought := slices.DeleteFunc(d.best().contracts, func(contract int) bool { return contract == api.AdSingle })
	slices.Sort(bought)
	return slices.Compact(bought)
}

// worth returns by how much the bill would be greater without a contract.
func (d desk) worth(contract int) int {
	return desk{d.without(contract), d.lines}.best().pence - d.best().pence
}
