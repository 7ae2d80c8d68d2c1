package machines

import (
	"flong/api"
	"flong/trains"
)

// hall is a given hall at work.
type hall struct {
	api.MachineHall
}

// named returns the error of a call that names something, which may be right or wrong.
func (h hall) named(right bool) api.Errno {
	if !h.valid() {
		return api.ErrMachine
	}
	if !right {
		return api.ErrArg
	}
	return api.OK
}

func (h hall) valid() bool {
	if trains.Check(h.House) != api.OK || len(h.Bores) != len(h.House.Machines) || len(h.Editions) > api.MaxTrainEditions {
		return false
	}
	for _, bore := range h.Bores {
		if !validBore(bore) {
			return false
		}
	}
	for _, pages := range h.Editions {
		if !validPages(pages) {
			return false
		}
	}
	for _, b := range h.House.Bundles {
		if b.Edition >= len(h.Editions) {
			return false
		}
	}
	return true
}

func validPages(pages []int) bool {
	least := 0
	for _, page := range pages {
		if !between(page, least, api.MaxMachinePages-1) {
			return false
		}
		least = page + 1
	}
	return true
}

func validPage(page int) bool { return between(page, 0, api.MaxMachinePages-1) }
func validBore(bore int) bool { return between(bore, 0, api.MaxMachineBores-1) }

func between(n, least, most int) bool {
	return least <= n && n <= most
}

func (h hall) hasMachine(machine int) bool { return between(machine, 0, len(h.House.Machines)-1) }

// canCase reports whether a case can be asked about; a machine that may not stop can be, too.
func (h hall) canCase(stop int) bool { return stop == api.MachineNone || h.hasMachine(stop) }

func (h hall) isPlan(plan [][]int) bool {
	good, _ := trains.Good(h.House, plan)
	return good
}

// cases returns all cases of the hall, ascending.
func (h hall) cases() []int {
	cases := []int{api.MachineNone}
	for machine, m := range h.House.Machines {
		if m.Stops == 1 {
			cases = append(cases, machine)
		}
	}
	return cases
}

// plates returns a plate of each page of an edition for one machine.
func (h hall) plates(machine, edition int) shelf {
	var s shelf
	for _, page := range h.Editions[edition] {
		s[place(page, h.Bores[machine])] = 1
	}
	return s
}

// need returns the plates of a plan: a machine needs a page once, though more of its editions have it.
func (h hall) need(plan [][]int) shelf {
	var need shelf
	for machine, bundles := range plan {
		var own shelf
		for _, bundle := range bundles {
			own = own.join(h.plates(machine, h.House.Bundles[bundle].Edition))
		}
		need = need.plus(own)
	}
	return need
}
