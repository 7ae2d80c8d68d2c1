package trains_test

import (
	"math/rand"
	"slices"

	"flong/api"
	"flong/checks"
)

func list(l ...int) []int { return l }

func lists(l ...[]int) [][]int { return l }

func machine(ready, pace, stops int) api.TrainMachine {
	return api.TrainMachine{Ready: ready, Pace: pace, Stops: stops}
}

func bundle(train, hundreds, edition int) api.TrainBundle {
	return api.TrainBundle{Train: train, Hundreds: hundreds, Edition: edition}
}

// houseH is H of the chapter's examples, and houseG is G.
func houseH() api.TrainHouse {
	return api.TrainHouse{
		Machines: []api.TrainMachine{machine(0, 2, 1), machine(5, 3, 0)},
		Bundles:  []api.TrainBundle{bundle(0, 4, 0), bundle(1, 3, 0), bundle(1, 5, 1)},
		Trains:   list(10, 31), Change: 2,
	}
}

func houseG() api.TrainHouse { return withH(func(h *api.TrainHouse) { h.Machines[0].Stops = 0 }) }

func withH(change func(h *api.TrainHouse)) api.TrainHouse { return changed(houseH(), change) }

// changed returns a copy of a house with something changed.
func changed(h api.TrainHouse, change func(h *api.TrainHouse)) api.TrainHouse {
	h = checks.CopyHouse(h)
	change(&h)
	return h
}

func equal(one, other [][]int) bool { return slices.EqualFunc(one, other, slices.Equal[[]int]) }

// bare is a house with nothing but a machine.
func bare() api.TrainHouse { return api.TrainHouse{Machines: []api.TrainMachine{machine(0, 1, 1)}} }

// single is a house with one machine that may not stop, and a bundle of one hundred for each train: of the editions, for trains that leave at the minutes.
func single(pace, change int, editions, minutes []int) api.TrainHouse {
	h := api.TrainHouse{Machines: []api.TrainMachine{machine(0, pace, 0)}, Trains: minutes, Change: change}
	for train, edition := range editions {
		h.Bundles = append(h.Bundles, bundle(train, 1, edition))
	}
	return h
}

// largest has as much as a house can have of all, and trains that leave at the minutes.
func largest(minutes ...int) api.TrainHouse {
	return api.TrainHouse{
		Machines: slices.Repeat([]api.TrainMachine{machine(99, 9, 1)}, 3),
		Bundles:  []api.TrainBundle{bundle(0, 9, 0), bundle(1, 9, 1), bundle(2, 9, 2), bundle(3, 9, 3), bundle(0, 9, 3)},
		Trains:   minutes, Change: 9,
	}
}

// someHouses returns houses of all sorts, with so many bundles at the most, the same at each call.
func someHouses(many, bundles int) []api.TrainHouse {
	r := rand.New(rand.NewSource(4))
	houses := []api.TrainHouse{houseH(), houseG(), bare(), {Machines: []api.TrainMachine{machine(99, 9, 0)}, Trains: list(0, 99), Change: 9}}
	for len(houses) < many {
		houses = append(houses, someHouse(r, bundles))
	}
	return houses
}

// someHouse has trains that leave about when their bundles are printed by some plan, some of them later; so it is often just sure, and often just not.
func someHouse(r *rand.Rand, bundles int) api.TrainHouse {
	h := api.TrainHouse{Change: r.Intn([]int{1, 4, 10}[r.Intn(3)])}
	ready, pace := []int{1, 6, 40}[r.Intn(3)], []int{1, 3, 9}[r.Intn(3)]
	for range 1 + r.Intn(api.MaxTrainMachines) {
		h.Machines = append(h.Machines, machine(r.Intn(ready), 1+r.Intn(pace), r.Intn(2)))
	}
	plan := make([][]int, len(h.Machines))
	h.Trains = make([]int, 1+r.Intn(api.MaxTrains))
	hundreds, editions := []int{2, 4, 9}[r.Intn(3)], []int{1, 2, 4}[r.Intn(3)]
	for i := range r.Intn(bundles + 1) {
		h.Bundles = append(h.Bundles, bundle(r.Intn(len(h.Trains)), 1+r.Intn(hundreds), r.Intn(editions)))
		on := r.Intn(len(plan))
		plan[on] = slices.Insert(plan[on], r.Intn(len(plan[on])+1), i)
	}
	for i, minute := range wantTimes(h, plan) {
		train := h.Bundles[i].Train
		h.Trains[train] = max(h.Trains[train], minute)
	}
	slack := []int{1, 3, 12, 40}[r.Intn(4)]
	for train, minute := range h.Trains {
		h.Trains[train] = min(max(minute+r.Intn(slack)-r.Intn(2), 0), api.MaxTrainMinute)
	}
	return h
}
