package copies_test

import (
	"math/rand"
	"slices"

	"flong/api"
)

func list(l ...int) []int { return l }

func lists(l ...[]int) [][]int { return l }

func span(low, high int) api.Span { return api.Span{Low: low, High: high} }

func machine(rate int, changes ...api.Span) api.CopyMachine {
	return api.CopyMachine{Changes: changes, Rate: rate}
}

func machines(l ...api.CopyMachine) []api.CopyMachine { return l }

// found is in the order of the chapter's examples: minute, what it shows, from.
func found(minute int, shows, from []int) api.CopyFound {
	return api.CopyFound{Minute: minute, New: shows, From: from}
}

// a run has as many plates as its first machine.
func run(last int, l []api.CopyMachine, copies ...api.CopyFound) api.CopyRun {
	return api.CopyRun{Plates: len(l[0].Changes), Last: last, Machines: l, Found: copies}
}

// runR is R of the chapter's examples.
func runR() api.CopyRun {
	return run(
		10, machines(machine(3, span(2, 5), span(2, 8)), machine(5, span(4, 9), span(0, 9))),
		found(4, list(1, 0), list(0, 1)), found(6, list(-1, 1), list(0, 1)), found(3, list(0, -1), list(0)),
	)
}

// runQ is Q of the chapter's examples.
func runQ() api.CopyRun {
	return withR(func(r *api.CopyRun) { r.Found[1].New = list(0, 1) })
}

// runL is the largest run: three machines of three plates each, of which nothing is known, and six copies that tell nothing.
func runL() api.CopyRun {
	all := span(0, 30)
	return run(30, slices.Repeat(machines(machine(9, all, all, all)), 3), slices.Repeat([]api.CopyFound{found(29, list(-1, -1, -1), list(0, 1, 2))}, 6)...)
}

// runN is a run in which there is no truth: a copy shows two plates new that one machine had not changed yet, and the other one one by one.
func runN() api.CopyRun {
	return run(
		9, machines(machine(1, span(5, 9), span(5, 9)), machine(1, span(0, 3), span(7, 7))),
		found(4, list(1, 1), list(0, 1)), found(8, list(-1, -1), list(0, 1)),
	)
}

func withR(change func(r *api.CopyRun)) api.CopyRun { return changed(runR(), change) }

// changed returns a copy of a run with something changed.
func changed(r api.CopyRun, change func(r *api.CopyRun)) api.CopyRun {
	r = copied(r)
	change(&r)
	return r
}

// copied returns a run that shares no memory with this one.
func copied(r api.CopyRun) api.CopyRun {
	r.Machines, r.Found = slices.Clone(r.Machines), slices.Clone(r.Found)
	for i, m := range r.Machines {
		r.Machines[i].Changes = slices.Clone(m.Changes)
	}
	for i, f := range r.Found {
		r.Found[i] = found(f.Minute, slices.Clone(f.New), slices.Clone(f.From))
	}
	return r
}

// size is how large a run may be: its machines, plates, copies, minutes, and how many minutes a change may have.
type size struct{ machines, plates, copies, last, width int }

var (
	small = size{3, 2, 3, 4, 2}
	three = size{2, 3, 3, 5, 2}
	large = size{api.MaxCopyMachines, api.MaxCopyPlates, api.MaxCopies, api.MaxCopyMinute, api.MaxCopyMinute + 1}
)

// someRuns returns runs of all sorts with a truth of each, the same at each call.
func someRuns(many int, most size) []told {
	r := rand.New(rand.NewSource(6))
	var runs []told
	for len(runs) < many {
		runs = append(runs, someRun(r, most))
	}
	return runs
}

// told is a run and one of its truths.
type told struct {
	run   api.CopyRun
	truth api.CopyTruth
}

func someRun(r *rand.Rand, most size) told {
	var x told
	x.run.Plates, x.run.Last = 1+r.Intn(most.plates), 1+r.Intn(most.last)
	if r.Intn(2) == 0 {
		x.run.Plates, x.run.Last = most.plates, most.last
	}
	for range 1 + r.Intn(most.machines) {
		m, minutes := someMachine(r, x.run, most.width)
		x.run.Machines, x.truth.Minutes = append(x.run.Machines, m), append(x.truth.Minutes, minutes)
	}
	unread := r.Intn(4)
	for range r.Intn(most.copies + 1) {
		f, from := someCopy(r, x, unread)
		x.run.Found, x.truth.From = append(x.run.Found, f), append(x.truth.From, from)
	}
	return x
}

// someMachine returns a machine and the minutes in which its plates were changed in truth.
func someMachine(r *rand.Rand, run api.CopyRun, width int) (api.CopyMachine, []int) {
	m := api.CopyMachine{Rate: r.Intn([]int{2, 4, api.MaxCopyRate + 1}[r.Intn(3)])}
	var minutes []int
	for range run.Plates {
		low := r.Intn(run.Last + 1)
		high := min(low+r.Intn(width), run.Last)
		m.Changes = append(m.Changes, span(low, high))
		minutes = append(minutes, low+r.Intn(high-low+1))
	}
	return m, minutes
}

// someCopy returns a copy and the machine from which it is in truth; of four plates about so many cannot be read.
func someCopy(r *rand.Rand, x told, unread int) (api.CopyFound, int) {
	f, from := api.CopyFound{Minute: r.Intn(x.run.Last)}, r.Intn(len(x.run.Machines))
	for _, minute := range x.truth.Minutes[from] {
		shows := wantShown(minute, f.Minute)
		if r.Intn(4) < unread {
			shows = api.CopyNot
		}
		f.New = append(f.New, shows)
	}
	for machine := range x.run.Machines {
		if machine == from || r.Intn(3) > 0 {
			f.From = append(f.From, machine)
		}
	}
	return f, from
}

// clearer returns all runs that tell a bit more than this one: a plate that could not be read is, or a copy has a machine less, or a change a minute less.
func clearer(r api.CopyRun) []api.CopyRun {
	var all []api.CopyRun
	add := func(can bool, change func(r *api.CopyRun)) {
		if can {
			all = append(all, changed(r, change))
		}
	}
	for i, f := range r.Found {
		for plate, shows := range f.New {
			add(shows == api.CopyNot, func(r *api.CopyRun) { r.Found[i].New[plate] = 0 })
			add(shows == api.CopyNot, func(r *api.CopyRun) { r.Found[i].New[plate] = 1 })
		}
		for k := range f.From {
			add(len(f.From) > 1, func(r *api.CopyRun) { r.Found[i].From = slices.Delete(r.Found[i].From, k, k+1) })
		}
	}
	for i, m := range r.Machines {
		for plate, s := range m.Changes {
			add(s.Low < s.High, func(r *api.CopyRun) { r.Machines[i].Changes[plate].Low++ })
			add(s.Low < s.High, func(r *api.CopyRun) { r.Machines[i].Changes[plate].High-- })
		}
	}
	return all
}
