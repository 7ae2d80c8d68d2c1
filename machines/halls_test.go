package machines_test

import (
	"math/rand"
	"slices"

	"flong/api"
	"flong/checks"
	"flong/trains"
)

func list(l ...int) []int { return l }

func lists(l ...[]int) [][]int { return l }

func machine(ready, pace, stops int) api.TrainMachine {
	return api.TrainMachine{Ready: ready, Pace: pace, Stops: stops}
}

func bundle(train, hundreds, edition int) api.TrainBundle {
	return api.TrainBundle{Train: train, Hundreds: hundreds, Edition: edition}
}

func plates(l ...int) []api.MachinePlate { return checks.Plates(l...) }

// hallK is K of the chapter's examples, and hallL is L.
func hallK() api.MachineHall {
	return api.MachineHall{
		House: api.TrainHouse{
			Machines: []api.TrainMachine{machine(0, 2, 1), machine(0, 2, 1)}, Bundles: []api.TrainBundle{bundle(0, 2, 0), bundle(1, 3, 1)},
			Trains: list(5, 12), Change: 2,
		},
		Bores: list(0, 1), Editions: lists(list(0, 1), list(0, 2)),
	}
}

func hallL() api.MachineHall { return withK(func(h *api.MachineHall) { h.Bores = list(0, 0) }) }

// bare is a hall with nothing but a machine.
func bare() api.MachineHall {
	return api.MachineHall{House: api.TrainHouse{Machines: []api.TrainMachine{machine(0, 1, 1)}}, Bores: list(2)}
}

// unsure is a hall in which a train is late if the machine 1 stops, though none is without a stop.
func unsure() api.MachineHall {
	return withK(func(h *api.MachineHall) { h.House.Machines[0].Stops, h.House.Machines[0].Pace = 0, 3 })
}

// largest has as much as a hall can have of all, with machines of the bores; each machine can print all of it in time.
func largest(bores ...int) api.MachineHall {
	return api.MachineHall{
		House: api.TrainHouse{
			Machines: slices.Repeat([]api.TrainMachine{machine(9, 1, 1)}, 3),
			Bundles:  []api.TrainBundle{bundle(0, 9, 0), bundle(1, 9, 1), bundle(2, 9, 2), bundle(3, 9, 3), bundle(0, 9, 3)},
			Trains:   list(99, 99, 99, 99), Change: 9,
		},
		Bores: bores, Editions: slices.Repeat(lists(list(0, 1, 2, 3)), 4),
	}
}

// apart has machines of these bores, and for each edition, with these pages, a bundle for a train that leaves as soon as one bundle can be printed; so each bundle needs a machine of its own.
func apart(bores []int, editions ...[]int) api.MachineHall {
	h := api.MachineHall{Bores: bores, Editions: editions}
	for range bores {
		h.House.Machines = append(h.House.Machines, machine(0, 5, 0))
	}
	for edition := range editions {
		h.House.Bundles = append(h.House.Bundles, bundle(0, 1, edition))
	}
	h.House.Trains = list(5)
	return h
}

func withK(change func(h *api.MachineHall)) api.MachineHall { return changed(hallK(), change) }

// changed returns a copy of a hall with something changed; it shares no memory with this one.
func changed(h api.MachineHall, change func(h *api.MachineHall)) api.MachineHall {
	h.House = checks.CopyHouse(h.House)
	h.Bores, h.Editions = slices.Clone(h.Bores), slices.Clone(h.Editions)
	for edition, pages := range h.Editions {
		h.Editions[edition] = slices.Clone(pages)
	}
	change(&h)
	return h
}

// calm returns the hall with machines that may not stop.
func calm(h api.MachineHall) api.MachineHall {
	return changed(h, func(h *api.MachineHall) {
		for i := range h.House.Machines {
			h.House.Machines[i].Stops = 0
		}
	})
}

func same(one, other api.MachineHall) bool {
	return checks.SameHouse(one.House, other.House) && slices.Equal(one.Bores, other.Bores) && slices.EqualFunc(one.Editions, other.Editions, slices.Equal[[]int])
}

// someHalls returns valid halls of all sorts, with so many bundles at the most, the same at each call.
func someHalls(many, bundles int) []api.MachineHall {
	r := rand.New(rand.NewSource(9))
	halls := []api.MachineHall{hallK(), hallL(), bare(), unsure(), apart(list(0, 2), list(1), list(3))}
	for len(halls) < many {
		halls = append(halls, someHall(r, bundles))
	}
	return halls
}

// someHall has trains that leave about when their bundles are printed by a quick plan of each case, some of them later; so it is often just sure, and often just not.
func someHall(r *rand.Rand, bundles int) api.MachineHall {
	var h api.MachineHall
	h.House.Change = r.Intn([]int{1, 4, 10}[r.Intn(3)])
	ready, pace, stops, bores := []int{1, 6}[r.Intn(2)], []int{1, 3, 5}[r.Intn(3)], []int{1, 2, 4}[r.Intn(3)], []int{1, 2, 3, 3, 3}[r.Intn(5)]
	for range []int{1, 2, 2, 3, 3, 3}[r.Intn(6)] {
		h.House.Machines = append(h.House.Machines, machine(r.Intn(ready), 1+r.Intn(pace), min(r.Intn(stops), 1)))
		h.Bores = append(h.Bores, r.Intn(bores))
	}
	often := 1 + r.Intn(3)
	for range 1 + r.Intn(api.MaxTrainEditions) {
		h.Editions = append(h.Editions, somePages(r, often))
	}
	h.House.Trains = make([]int, 1+r.Intn(api.MaxTrains))
	hundreds := []int{2, 4}[r.Intn(2)]
	for range max(bundles-r.Intn(4)*r.Intn(2), 0) {
		h.House.Bundles = append(h.House.Bundles, bundle(r.Intn(len(h.House.Trains)), 1+r.Intn(hundreds), r.Intn(len(h.Editions))))
	}
	leave(r, &h.House)
	return h
}

// somePages returns some pages, each of them so often out of 4 times.
func somePages(r *rand.Rand, often int) []int {
	var pages []int
	for page := range api.MaxMachinePages {
		if r.Intn(4) < often {
			pages = append(pages, page)
		}
	}
	return pages
}

// leave makes trains leave when a quick plan of each case, or of the one without a stop, has printed their bundles, or a little later, or a minute earlier.
func leave(r *rand.Rand, h *api.TrainHouse) {
	cases := wantCases(*h)
	if r.Intn(3) == 0 {
		cases = cases[:1]
	}
	for _, stop := range cases {
		for i, minute := range quickest(r, *h, stop) {
			train := h.Bundles[i].Train
			h.Trains[train] = max(h.Trains[train], minute)
		}
	}
	slack := []int{1, 3, 12, 40}[r.Intn(4)]
	for train, minute := range h.Trains {
		h.Trains[train] = min(max(minute+r.Intn(slack)-r.Intn(8)/7, 0), api.MaxTrainMinute)
	}
}

// quickest returns when bundles are printed by that of some plans of a case that is done first.
func quickest(r *rand.Rand, h api.TrainHouse, stop int) []int {
	var quick []int
	for range 1 + r.Intn(8) {
		minutes, _ := trains.Times(h, somePlan(r, h, stop))
		if quick == nil || len(minutes) > 0 && slices.Max(minutes) < slices.Max(quick) {
			quick = minutes
		}
	}
	return quick
}

// somePlan returns a plan of a case, with all bundles if some machine does not stop.
func somePlan(r *rand.Rand, h api.TrainHouse, stop int) [][]int {
	plan := make([][]int, len(h.Machines))
	for i := range h.Bundles {
		on := r.Intn(len(plan))
		if on == stop {
			on = (on + 1) % len(plan)
		}
		if on != stop {
			plan[on] = slices.Insert(plan[on], r.Intn(len(plan[on])+1), i)
		}
	}
	return plan
}

// someSet returns a set that is mostly about as great as a given one.
func someSet(r *rand.Rand, about []api.MachinePlate) []api.MachinePlate {
	var set []api.MachinePlate
	less, more := 1+r.Intn(6), 1+r.Intn(6)
	for page := range api.MaxMachinePages {
		for bore := range api.MaxMachineBores {
			many := checks.ManyOf(about, page, bore)
			if r.Intn(less) == 0 {
				many -= r.Intn(2)
			}
			if r.Intn(more) == 0 {
				many += r.Intn(3)
			}
			if r.Intn(30) == 0 {
				many = api.MaxMachineMany
			}
			set = checks.Put(set, page, bore, many)
		}
	}
	return set
}
