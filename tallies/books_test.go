package tallies_test

import (
	"math/rand"
	"slices"

	"flong/api"
	"flong/checks"
)

func list(l ...int) []int { return l }

func lists(l ...[]int) [][]int { return l }

func plates(l ...int) []api.MachinePlate { return checks.Plates(l...) }

// said has fours of numbers, in the order of the chapter's examples: boy, page, machine, minute.
func said(l ...int) []api.Tally {
	var all []api.Tally
	for four := range slices.Chunk(l, 4) {
		all = append(all, api.Tally{Boy: four[0], Page: four[1], Machine: four[2], Minute: four[3]})
	}
	return all
}

// hall has machines of these bores, and editions of these pages, with a bundle of each.
func hall(bores []int, editions ...[]int) api.MachineHall {
	h := api.MachineHall{Bores: bores, Editions: editions, House: api.TrainHouse{Trains: list(99)}}
	for range bores {
		h.House.Machines = append(h.House.Machines, api.TrainMachine{Pace: 2, Stops: 1})
	}
	for edition := range editions {
		h.House.Bundles = append(h.House.Bundles, api.TrainBundle{Hundreds: 1, Edition: edition})
	}
	return h
}

// bookB is B of the chapter's examples, and bookC is C.
func bookB() api.TallyBook {
	return api.TallyBook{
		Hall: api.MachineHall{
			House: api.TrainHouse{
				Machines: []api.TrainMachine{{Pace: 2, Stops: 1}, {Pace: 2, Stops: 1}},
				Bundles:  []api.TrainBundle{{Hundreds: 2}, {Train: 1, Hundreds: 3, Edition: 1}}, Trains: list(5, 12), Change: 2,
			},
			Bores: list(0, 1), Editions: lists(list(0, 1), list(0, 2)),
		},
		Set: plates(0, 0, 1, 0, 1, 1, 1, 0, 1, 2, 1, 1), Walk: list(3, 5), Boys: 2,
		Tallies: said(0, 0, 0, 4, 0, 1, 0, 8, 1, 0, 1, 6, 1, 2, 1, 16, 0, 0, 0, 20),
	}
}

func bookC() api.TallyBook {
	return withB(func(b *api.TallyBook) { b.Tallies = b.Tallies[:4] })
}

// bare is a book of a hall with nothing but a machine.
func bare() api.TallyBook { return api.TallyBook{Hall: hall(list(2)), Walk: list(0)} }

// scarce has three machines of one bore, one plate of the page 0 and two of the page 1, of each of which three tallies are; each is of a boy that has time.
func scarce() api.TallyBook {
	return api.TallyBook{
		Hall: hall(list(1, 1, 1), list(0), list(0, 1), nil), Set: plates(0, 0, 9, 0, 1, 1, 1, 1, 2), Walk: list(0, 0, 0), Boys: 4,
		Tallies: said(0, 0, 0, 1, 1, 0, 1, 2, 2, 0, 2, 3, 0, 1, 0, 4, 1, 1, 1, 5, 2, 1, 2, 6),
	}
}

// largest has as much as a book can have of all; its tallies are all of one boy, at one minute, so just one of them can be true.
func largest() api.TallyBook {
	b := api.TallyBook{
		Hall: hall(list(2, 2, 2), slices.Repeat(lists(list(0, 1, 2, 3)), 4)...), Set: plates(0, 2, 9, 1, 2, 9, 2, 2, 9, 3, 2, 9), Walk: list(20, 20, 20), Boys: 4,
	}
	for i := range 8 {
		b.Tallies = append(b.Tallies, said(3, i/2, i%2+1, 99)...)
	}
	return b
}

func withB(change func(b *api.TallyBook)) api.TallyBook { return changed(bookB(), change) }

// changed returns a copy of a book with something changed; it shares no memory with this one.
func changed(b api.TallyBook, change func(b *api.TallyBook)) api.TallyBook {
	h := &b.Hall
	h.House = checks.CopyHouse(h.House)
	h.Bores, h.Editions = slices.Clone(h.Bores), slices.Clone(h.Editions)
	for edition, pages := range h.Editions {
		h.Editions[edition] = slices.Clone(pages)
	}
	b.Set, b.Walk, b.Tallies = slices.Clone(b.Set), slices.Clone(b.Walk), slices.Clone(b.Tallies)
	change(&b)
	return b
}

// saying returns a book with other tallies.
func saying(b api.TallyBook, all []api.Tally) api.TallyBook {
	return changed(b, func(b *api.TallyBook) { b.Tallies = slices.Clone(all) })
}

// without returns a book without a tally.
func without(b api.TallyBook, tally int) api.TallyBook {
	return changed(b, func(b *api.TallyBook) { b.Tallies = slices.Delete(b.Tallies, tally, tally+1) })
}

// someBooks returns valid books of all sorts with at most so many tallies, the same at each call.
func someBooks(many, most int) []api.TallyBook {
	r := rand.New(rand.NewSource(11))
	books := []api.TallyBook{bookB(), bookC(), bare(), scarce(), largest()}
	for len(books) < many {
		books = append(books, someBook(r, most))
	}
	return books
}

// someBook has boys with much time or little, and sometimes few plates; so in some books nothing clashes, and in others all does.
func someBook(r *rand.Rand, most int) api.TallyBook {
	b := api.TallyBook{Boys: r.Intn(api.MaxTallyBoys + 1)}
	b.Hall = someHall(r)
	far := []int{1, 4, api.MaxTallyWalk + 1}[r.Intn(3)]
	for range b.Hall.Bores {
		b.Walk = append(b.Walk, r.Intn(far))
	}
	pages, last := []int{1, 2, api.MaxMachinePages}[r.Intn(3)], []int{1, 12, 50, api.MaxTallyMinute + 1}[r.Intn(4)]
	for range (most - min(r.Intn(most+1), r.Intn(most+1))) * min(b.Boys, 1) {
		b.Tallies = append(b.Tallies, someTally(r, b, pages, last))
	}
	b.Set = someSet(r, b)
	return b
}

func someTally(r *rand.Rand, b api.TallyBook, pages, last int) api.Tally {
	return api.Tally{Boy: r.Intn(b.Boys), Page: r.Intn(pages), Machine: r.Intn(len(b.Hall.Bores)), Minute: r.Intn(last)}
}

func someHall(r *rand.Rand) api.MachineHall {
	var bores []int
	differ := 1 + r.Intn(api.MaxMachineBores)
	for range 1 + r.Intn(api.MaxTrainMachines) {
		bores = append(bores, r.Intn(differ))
	}
	var editions [][]int
	often := 1 + r.Intn(3)
	for range r.Intn(api.MaxTrainEditions + 1) {
		var pages []int
		for page := range api.MaxMachinePages {
			if r.Intn(4) < often {
				pages = append(pages, page)
			}
		}
		editions = append(editions, pages)
	}
	return hall(bores, editions...)
}

// someSet has about as many plates as the tallies say.
func someSet(r *rand.Rand, b api.TallyBook) []api.MachinePlate {
	var set []api.MachinePlate
	less, more := 1+r.Intn(4), 1+r.Intn(4)
	for page := range api.MaxMachinePages {
		for bore := range api.MaxMachineBores {
			many := 0
			for _, x := range b.Tallies {
				if x.Page == page && b.Hall.Bores[x.Machine] == bore {
					many++
				}
			}
			set = checks.Put(set, page, bore, max(0, many-r.Intn(less))+r.Intn(more)/2)
		}
	}
	return set
}
