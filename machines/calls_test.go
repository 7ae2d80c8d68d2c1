package machines_test

import (
	"math"
	"math/rand"
	"slices"
	"testing"

	"flong/api"
	"flong/checks"
	"flong/machines"
)

const most, least = math.MaxInt, math.MinInt

func need(h api.MachineHall, plan [][]int) checks.Answer {
	set, e := machines.Need(h, plan)
	return checks.Said("Need", e, len(set) == 0)
}

func fit(h api.MachineHall, on int, set []api.MachinePlate) checks.Answer {
	l, e := machines.Fit(h, on, set)
	return checks.Said("Fit", e, len(l) == 0)
}

func can(h api.MachineHall, set []api.MachinePlate, stop int) checks.Answer {
	does, e := machines.Can(h, set, stop)
	return checks.Said("Can", e, !does)
}

func lacks(h api.MachineHall, set []api.MachinePlate) checks.Answer {
	l, e := machines.Lacks(h, set)
	return checks.Said("Lacks", e, len(l) == 0)
}

// toSet returns the answers of the calls that have a set, and are ErrNone if no set, or not this one, is enough.
func toSet(h api.MachineHall, set []api.MachinePlate) []checks.Answer {
	n, e1 := machines.Extra(h, set)
	l, e2 := machines.Idle(h, set)
	return []checks.Answer{checks.Said("Extra", e1, n == 0), checks.Said("Idle", e2, len(l) == 0)}
}

// ofHall returns the answers of the calls that have a hall alone, but for Check and Calm.
func ofHall(h api.MachineHall) []checks.Answer {
	n, e1 := machines.Fewest(h)
	set, e2 := machines.Set(h)
	return []checks.Answer{checks.Said("Fewest", e1, n == 0), checks.Said("Set", e2, len(set) == 0)}
}

func calmOf(h api.MachineHall) checks.Answer {
	n, e := machines.Calm(h)
	return checks.Said("Calm", e, n == 0)
}

func gain(h api.MachineHall, one, other int) checks.Answer {
	n, e := machines.Gain(h, one, other)
	return checks.Said("Gain", e, n == 0)
}

// P9.1
func TestCheckValid(t *testing.T) {
	for i, h := range []api.MachineHall{
		hallK(), hallL(), bare(), unsure(), largest(0, 1, 2), largest(2, 2, 2), apart(list(2, 0, 1), list(3), nil, list(0, 3)),
		withK(func(h *api.MachineHall) { h.Editions = lists(nil, list(0, 1, 2, 3), list(2), list(1, 3)) }),
		withK(func(h *api.MachineHall) { h.House.Bundles = nil }), withK(func(h *api.MachineHall) { h.House.Bundles, h.Editions = nil, nil }),
		withK(func(h *api.MachineHall) { h.House.Bundles[1].Edition, h.Editions = 0, h.Editions[:1] }),
	} {
		if e := machines.Check(h); e != api.OK {
			t.Errorf("%d: Check(%v) = %d", i, h, e)
		}
	}
}

// invalid has halls that are not valid, each by one number or one length.
func invalid() []api.MachineHall {
	var halls []api.MachineHall
	add := func(change func(h *api.MachineHall, n int), numbers ...int) {
		for _, n := range numbers {
			halls = append(halls, withK(func(h *api.MachineHall) { change(h, n) }))
		}
	}
	for i := range 2 {
		add(func(h *api.MachineHall, n int) { h.House.Machines[i].Pace = n }, 0, 10, most, least)
		add(func(h *api.MachineHall, n int) { h.House.Machines[i].Stops = n }, -1, 2)
		add(func(h *api.MachineHall, n int) { h.House.Bundles[i].Train = n }, -1, 2, most, least)
		add(func(h *api.MachineHall, n int) { h.House.Bundles[i].Edition = n }, -1, 2, 3, 4, most, least)
		add(func(h *api.MachineHall, n int) { h.House.Trains[i] = n }, -1, 100)
		add(func(h *api.MachineHall, n int) { h.Bores[i] = n }, -1, 3, most, least)
		add(func(h *api.MachineHall, n int) { h.Editions[i][0] = n }, -1, secondPage(i), 3, 4, most, least)
		add(func(h *api.MachineHall, n int) { h.Editions[i][1] = n }, 0, -1, 4, most, least)
		add(func(h *api.MachineHall, n int) { h.Editions[i] = slices.Repeat(h.Editions[i], n) }, 2, 1000)
	}
	add(func(h *api.MachineHall, n int) { h.House.Change = n }, -1, 10)
	add(func(h *api.MachineHall, n int) { h.Bores = make([]int, n) }, 0, 1, 3, 4, 1000)
	add(func(h *api.MachineHall, n int) { h.Editions = make([][]int, n) }, 0, 1, 5, 1000)
	add(func(h *api.MachineHall, n int) {
		h.House.Machines, h.Bores = make([]api.TrainMachine, n), make([]int, n)
	}, 0, 4, 1000)
	add(func(h *api.MachineHall, n int) { h.House.Machines = slices.Repeat(h.House.Machines[:1], n) }, 0, 1, 3)
	add(func(h *api.MachineHall, n int) { h.House.Bundles = slices.Repeat(h.House.Bundles, n) }, 3, 1000)
	// An edition without a bundle is to be right, too.
	add(func(h *api.MachineHall, n int) { h.Editions = append(h.Editions, list(n)) }, -1, 4)
	return append(halls, api.MachineHall{}, api.MachineHall{Bores: list(0)})
}

// secondPage is the second page of an edition of K.
func secondPage(edition int) int { return hallK().Editions[edition][1] }

// P1 and P9.1, and ErrMachine ahead of all other errors
func TestCheckInvalid(t *testing.T) {
	for _, h := range invalid() {
		checks.Expect(t, h, api.ErrMachine, append(ofHall(h), checks.Said("Check", machines.Check(h), true), calmOf(h))...)
		for _, plan := range [][][]int{nil, lists(nil, nil), lists(list(0), list(1)), lists(list(6, 5), nil), lists(list(most)), slices.Repeat(lists(nil), 1000)} {
			checks.Expect(t, h, api.ErrMachine, need(h, plan))
		}
		for _, set := range [][]api.MachinePlate{nil, plates(0, 0, 1), plates(0, 2, 9), plates(0, 0, 0), plates(0, 0, 1, 0, 0, 1), plates(most, least, most)} {
			checks.Expect(t, h, api.ErrMachine, append(toSet(h, set), lacks(h, set))...)
			for _, n := range []int{0, 1, -1, 3, 999, most, least} {
				checks.Expect(t, h, api.ErrMachine, fit(h, n, set), can(h, set, n), gain(h, n, 0), gain(h, 0, n), gain(h, n, n))
			}
		}
	}
}

// notSets has lists that are no sets of plates.
func notSets() [][]api.MachinePlate {
	all := [][]api.MachinePlate{
		plates(0, 0, 1, 0, 0, 1), plates(0, 0, 1, 0, 0, 2), plates(0, 1, 1, 0, 0, 1), plates(1, 0, 1, 0, 2, 1), plates(0, 0, 1, 1, 1, 1, 1, 0, 1),
		plates(0, 0, 1, 3, 2, 1, 3, 2, 1), slices.Repeat(plates(0, 0, 1), 1000),
	}
	for _, n := range list(-1, 4, 5, most, least) {
		all = append(all, plates(n, 0, 1), plates(0, 0, 1, n, 1, 1))
	}
	// With a bore of 3 a plate would have the place of one of the next page.
	for _, n := range list(-1, 3, 4, most, least) {
		all = append(all, plates(0, n, 1), plates(0, 0, 1, 1, n, 1), plates(3, n, 1))
	}
	for _, n := range list(0, -1, 10, 11, most, least) {
		all = append(all, plates(0, 0, n), plates(0, 0, 1, 1, 1, n))
	}
	return all
}

// P1, and ErrArg, also ahead of ErrNone
func TestNotOfTheHall(t *testing.T) {
	for _, h := range []api.MachineHall{hallK(), unsure()} {
		for _, set := range notSets() {
			checks.Expect(t, set, api.ErrArg, append(toSet(h, set), lacks(h, set), fit(h, 0, set), can(h, set, api.MachineNone), can(h, set, 0))...)
		}
		set := plates(0, 0, 1)
		for _, n := range list(-2, 2, 3, most, least) {
			checks.Expect(t, n, api.ErrArg, can(h, set, n))
		}
		for _, n := range list(-1, 2, 3, most, least) {
			checks.Expect(t, n, api.ErrArg, fit(h, n, set), gain(h, n, 0), gain(h, 0, n), gain(h, n, n))
		}
		for _, plan := range [][][]int{nil, {}, lists(nil), lists(nil, nil, nil), lists(list(0, 0), nil), lists(list(0), list(0)), lists(list(2), nil), lists(nil, list(-1)), lists(list(0, most), list(1)), lists(nil, slices.Repeat(list(0), 1000)), slices.Repeat(lists(nil), 1000)} {
			checks.Expect(t, plan, api.ErrArg, need(h, plan))
		}
	}
	checks.Expect(t, "one machine", api.ErrArg, fit(bare(), 1, nil), can(bare(), nil, 1), gain(bare(), 0, 1), gain(bare(), 1, 0), need(bare(), lists(list(0))))
}

// P9.2
func TestNeed(t *testing.T) {
	k := hallK()
	wide := withK(func(h *api.MachineHall) {
		h.House.Machines, h.Bores = append(h.House.Machines, machine(9, 9, 0)), list(2, 0, 2)
		h.House.Bundles, h.Editions = append(h.House.Bundles, bundle(0, 1, 0), bundle(1, 1, 3), bundle(1, 1, 2)), append(h.Editions, nil, list(1, 3))
	})
	for i, x := range []struct {
		h    api.MachineHall
		plan [][]int
		want []api.MachinePlate
	}{
		{k, lists(list(0), list(1)), plates(0, 0, 1, 0, 1, 1, 1, 0, 1, 2, 1, 1)}, {k, lists(list(1), list(0)), plates(0, 0, 1, 0, 1, 1, 1, 1, 1, 2, 0, 1)},
		// A machine needs a page once, whatever is late.
		{k, lists(list(0, 1), nil), plates(0, 0, 1, 1, 0, 1, 2, 0, 1)}, {k, lists(list(1, 0), nil), plates(0, 0, 1, 1, 0, 1, 2, 0, 1)}, {k, lists(nil, list(1, 0)), plates(0, 1, 1, 1, 1, 1, 2, 1, 1)},
		{k, lists(nil, list(1)), plates(0, 1, 1, 2, 1, 1)}, {k, lists(nil, nil), nil}, {bare(), lists(nil), nil},
		// Machines of one bore need plates of their own.
		{hallL(), lists(list(0), list(1)), plates(0, 0, 2, 1, 0, 1, 2, 0, 1)}, {hallL(), lists(list(0, 1), nil), plates(0, 0, 1, 1, 0, 1, 2, 0, 1)},
		{wide, lists(list(0, 3), nil, list(2, 1)), plates(0, 2, 2, 1, 2, 2, 2, 2, 1, 3, 2, 1)}, {wide, lists(list(0), list(2), list(1)), plates(0, 0, 1, 0, 2, 2, 1, 0, 1, 1, 2, 1, 2, 2, 1)},
		{wide, lists(list(4), nil, list(3)), plates(1, 2, 1, 3, 2, 1)}, {wide, lists(list(4), nil, nil), nil},
		{largest(1, 1, 1), lists(list(0), list(2, 1), list(4, 3)), plates(0, 1, 3, 1, 1, 3, 2, 1, 3, 3, 1, 3)},
	} {
		if set, e := machines.Need(x.h, x.plan); !slices.Equal(set, x.want) || e != api.OK {
			t.Errorf("%d: Need(%v) = %v, %d, want %v", i, x.plan, set, e, x.want)
		}
	}
}

// P9.3
func TestFit(t *testing.T) {
	k, set := hallK(), plates(0, 0, 1, 2, 0, 1)
	more := withK(func(h *api.MachineHall) { h.Editions = append(h.Editions, nil, list(2)) })
	for i, x := range []struct {
		h    api.MachineHall
		on   int
		set  []api.MachinePlate
		want []int
	}{
		{k, 0, set, list(1)}, {k, 1, set, nil}, {hallL(), 1, set, list(1)}, {k, 0, nil, nil}, {k, 0, plates(0, 0, 9, 1, 0, 1, 1, 1, 1, 2, 1, 3), list(0)},
		{k, 0, plates(0, 0, 1, 1, 0, 1, 2, 0, 1), list(0, 1)}, {k, 1, plates(0, 1, 1, 1, 1, 1, 2, 1, 1), list(0, 1)}, {k, 1, plates(0, 0, 1, 0, 1, 1, 1, 0, 1, 2, 0, 9), nil},
		// An edition without pages, and one without a bundle, are editions like all others.
		{more, 0, set, list(1, 2, 3)}, {more, 1, set, list(2)}, {more, 1, nil, list(2)}, {more, 1, plates(2, 1, 1), list(2, 3)}, {bare(), 0, set, nil},
		{largest(0, 1, 2), 2, plates(0, 2, 1, 1, 2, 1, 2, 2, 1, 3, 2, 1), list(0, 1, 2, 3)}, {largest(0, 1, 2), 1, plates(0, 2, 1, 1, 2, 1, 2, 2, 1, 3, 2, 1), nil},
	} {
		if l, e := machines.Fit(x.h, x.on, x.set); !slices.Equal(l, x.want) || e != api.OK {
			t.Errorf("%d: Fit(%d, %v) = %v, %d, want %v", i, x.on, x.set, l, e, x.want)
		}
	}
}

// P9.4 and P9.5
func TestCanAndLacks(t *testing.T) {
	k, set, other := hallK(), plates(0, 0, 1, 1, 0, 1, 2, 0, 1), plates(0, 1, 1, 1, 1, 1, 2, 1, 1)
	for i, x := range []struct {
		h     api.MachineHall
		set   []api.MachinePlate
		can   []bool // without a stop, and by the stop of each machine
		lacks []int
	}{
		{k, set, []bool{true, false, true}, list(0)}, {k, other, []bool{true, true, false}, list(1)}, {k, together(set, other), []bool{true, true, true}, nil},
		{k, nil, []bool{false, false, false}, list(-1, 0, 1)}, {k, plates(0, 0, 1, 0, 1, 1, 1, 0, 1, 2, 1, 1), []bool{true, false, false}, list(0, 1)},
		{k, plates(0, 0, 1, 0, 1, 1, 2, 0, 1, 2, 1, 1, 3, 2, 9), []bool{false, false, false}, list(-1, 0, 1)}, {hallL(), set, []bool{true, true, true}, nil},
		// What a machine that may not stop would do is asked as well, but it is not lacked.
		{calm(k), set, []bool{true, false, true}, nil}, {calm(k), nil, []bool{false, false, false}, list(-1)},
		// Where no plan is in time no set does.
		{unsure(), together(set, other), []bool{true, true, false}, list(1)}, {unsure(), set, []bool{false, false, false}, list(-1, 1)},
		// Without bundles nothing is needed; if nothing but the only machine stops, nothing can be printed.
		{bare(), nil, []bool{true, true}, nil}, {changed(apart(list(1), list(2)), func(h *api.MachineHall) { h.House.Machines[0].Stops = 1 }), plates(2, 1, 9), []bool{true, false}, list(0)},
		{apart(list(1), list(2)), plates(2, 1, 1), []bool{true, false}, nil}, {apart(list(1), nil), nil, []bool{true, false}, nil},
		// Each bundle needs a machine of its own, which has plates of its own.
		{apart(list(0, 0), list(1), list(1)), plates(1, 0, 2), []bool{true, false, false}, nil}, {apart(list(0, 0), list(1), list(1)), plates(1, 0, 1), []bool{false, false, false}, list(-1)},
		{apart(list(0, 1), list(2), list(3)), plates(2, 1, 1, 3, 0, 1), []bool{true, false, false}, nil}, {apart(list(0, 1), list(2), list(3)), plates(2, 0, 1, 3, 0, 1), []bool{false, false, false}, list(-1)},
		// The bundle with the greater number must be printed first.
		{withK(func(h *api.MachineHall) { h.House.Bundles[0], h.House.Bundles[1] = bundle(1, 3, 1), bundle(0, 2, 0) }), set, []bool{true, false, true}, list(0)},
	} {
		for n, want := range x.can {
			if does, e := machines.Can(x.h, x.set, n-1); does != want || e != api.OK {
				t.Errorf("%d: Can(%d) = %v, %d", i, n-1, does, e)
			}
		}
		if l, e := machines.Lacks(x.h, x.set); !slices.Equal(l, x.lacks) || e != api.OK {
			t.Errorf("%d: Lacks = %v, %d, want %v", i, l, e, x.lacks)
		}
	}
}

// P9.6, P9.7 and P9.10
func TestFewestAndSet(t *testing.T) {
	one, both := plates(0, 0, 1, 1, 0, 1, 2, 0, 1), plates(0, 0, 1, 0, 1, 1, 1, 0, 1, 1, 1, 1, 2, 0, 1, 2, 1, 1)
	for i, x := range []struct {
		h    api.MachineHall
		set  []api.MachinePlate
		calm int
	}{
		{hallK(), both, 3}, {hallL(), one, 3}, {calm(hallK()), one, 3}, {bare(), nil, 0}, {withK(func(h *api.MachineHall) { h.Bores = list(2, 1) }), plates(0, 1, 1, 0, 2, 1, 1, 1, 1, 1, 2, 1, 2, 1, 1, 2, 2, 1), 3},
		// With the machine 0 alone that may stop all can be on the other one in each case.
		{withK(func(h *api.MachineHall) { h.House.Machines[1].Stops = 0 }), plates(0, 1, 1, 1, 1, 1, 2, 1, 1), 3},
		{withK(func(h *api.MachineHall) { h.Editions = lists(nil, nil) }), nil, 0}, {withK(func(h *api.MachineHall) { h.Editions = lists(nil, list(3)) }), plates(3, 0, 1, 3, 1, 1), 1},
		{withK(func(h *api.MachineHall) { h.House.Bundles = nil }), nil, 0},
		// Of two sets the one has more plates of the first page, of the second one, or of the first bore.
		{apart(list(0, 1), list(2), list(1)), plates(1, 0, 1, 2, 1, 1), 2}, {apart(list(2, 1), list(0, 1), list(0, 3)), plates(0, 1, 1, 0, 2, 1, 1, 1, 1, 3, 2, 1), 4},
		{apart(list(0, 0, 1), list(1), list(0), list(0)), plates(0, 0, 2, 1, 1, 1), 3}, {apart(list(2, 2, 0), list(1), list(0), list(0)), plates(0, 0, 1, 0, 2, 1, 1, 2, 1), 3},
		// Fewer plates are better than more of the first page.
		{apart(list(0, 0, 1), list(0), list(1)), plates(0, 0, 1, 1, 0, 1), 2}, {apart(list(0, 0, 0), list(3), list(3), list(3)), plates(3, 0, 3), 3},
		{changed(apart(list(0, 1), list(0, 1, 2), list(0)), func(h *api.MachineHall) { h.House.Trains = list(10) }), plates(0, 0, 1, 1, 0, 1, 2, 0, 1), 3},
		{largest(0, 0, 0), plates(0, 0, 1, 1, 0, 1, 2, 0, 1, 3, 0, 1), 4}, {largest(0, 1, 0), plates(0, 0, 1, 1, 0, 1, 2, 0, 1, 3, 0, 1), 4},
		{largest(0, 1, 2), plates(0, 0, 1, 0, 1, 1, 1, 0, 1, 1, 1, 1, 2, 0, 1, 2, 1, 1, 3, 0, 1, 3, 1, 1), 4},
	} {
		n, e := machines.Fewest(x.h)
		set, f := machines.Set(x.h)
		c, g := machines.Calm(x.h)
		if n != sizeOf(x.set) || e != api.OK || !slices.Equal(set, x.set) || f != api.OK || c != x.calm || g != api.OK {
			t.Errorf("%d: Fewest = %d, %d; Set = %v, %d, want %v; Calm = %d, %d, want %d", i, n, e, set, f, x.set, c, g, x.calm)
		}
	}
}

// P9.8 and P9.9
func TestExtraAndIdle(t *testing.T) {
	k, l, two := hallK(), hallL(), apart(list(0, 1), list(0), list(1))
	for i, x := range []struct {
		h     api.MachineHall
		set   []api.MachinePlate
		extra int
		idle  []api.MachinePlate // where extra is 0
	}{
		{k, plates(0, 0, 1, 1, 0, 1, 2, 0, 1), 3, nil}, {k, nil, 6, nil}, {k, plates(0, 0, 9, 3, 0, 9, 3, 2, 1), 5, nil}, {k, plates(0, 0, 1, 0, 1, 1, 1, 0, 1, 1, 1, 1, 2, 0, 1, 2, 1, 1), 0, nil},
		{k, plates(0, 0, 2, 0, 1, 1, 0, 2, 9, 1, 0, 1, 1, 1, 1, 2, 0, 1, 2, 1, 4), 0, plates(0, 0, 1, 0, 2, 9, 2, 1, 3)},
		{l, plates(0, 0, 1, 1, 0, 2, 2, 0, 1), 0, plates(1, 0, 1)}, {l, plates(0, 1, 1, 1, 1, 2, 2, 1, 1), 3, nil}, {l, plates(0, 0, 1, 1, 0, 1, 2, 0, 1), 0, nil},
		// What must come is what is fewest for this set, not for none.
		{two, nil, 2, nil}, {two, plates(0, 1, 1), 1, nil}, {two, plates(1, 0, 1), 1, nil}, {two, plates(0, 1, 1, 1, 0, 1), 0, nil}, {two, plates(0, 0, 1, 1, 0, 9), 1, nil},
		// Each of some plates can be left out alone, but not all of them.
		{two, plates(0, 0, 1, 0, 1, 1, 1, 0, 1, 1, 1, 1), 0, plates(0, 0, 1, 0, 1, 1, 1, 0, 1, 1, 1, 1)}, {two, plates(0, 0, 3, 1, 1, 2), 0, plates(0, 0, 2, 1, 1, 1)},
		{two, plates(0, 0, 1, 0, 1, 2, 1, 1, 1), 0, plates(0, 1, 2)}, {two, plates(0, 0, 2, 0, 1, 2, 1, 0, 2, 1, 2, 2), 0, plates(0, 0, 2, 0, 1, 1, 1, 0, 1, 1, 2, 2)},
		{bare(), nil, 0, nil}, {bare(), plates(0, 0, 1, 3, 2, 9), 0, plates(0, 0, 1, 3, 2, 9)}, {largest(1, 1, 1), nil, 4, nil}, {largest(0, 1, 2), plates(0, 0, 9, 1, 1, 9, 2, 2, 9), 6, nil},
	} {
		n, e := machines.Extra(x.h, x.set)
		if n != x.extra || e != api.OK {
			t.Errorf("%d: Extra = %d, %d, want %d", i, n, e, x.extra)
		}
		idle, e := machines.Idle(x.h, x.set)
		if !slices.Equal(idle, x.idle) || (e == api.OK) != (x.extra == 0) || x.extra > 0 && e != api.ErrNone {
			t.Errorf("%d: Idle = %v, %d, want %v", i, idle, e, x.idle)
		}
	}
}

// P9.11
func TestGain(t *testing.T) {
	k := hallK()
	// The machine 2 is ready too late to print anything.
	late := withK(func(h *api.MachineHall) {
		h.House.Machines, h.Bores = append(h.House.Machines, machine(99, 1, 0)), list(0, 0, 1)
	})
	for i, x := range []struct {
		h          api.MachineHall
		one, other int
		want       int
	}{
		{k, 1, 0, 3}, {k, 0, 1, 3}, {k, 0, 0, 0}, {k, 1, 1, 0}, {hallL(), 1, 0, 0}, {calm(k), 0, 1, 0}, {bare(), 0, 0, 0},
		{late, 0, 2, -3}, {late, 1, 2, -3}, {late, 2, 0, 0}, {late, 0, 1, 0}, {largest(0, 1, 2), 2, 0, 4}, {largest(0, 1, 2), 0, 1, 4}, {largest(0, 1, 0), 0, 1, 0}, {largest(1, 0, 1), 1, 2, 0},
	} {
		if n, e := machines.Gain(x.h, x.one, x.other); n != x.want || e != api.OK {
			t.Errorf("%d: Gain(%d, %d) = %d, %d, want %d", i, x.one, x.other, n, e, x.want)
		}
	}
}

// P9.6 to P9.11: ErrNone
func TestNoSet(t *testing.T) {
	all := plates(0, 0, 9, 0, 1, 9, 1, 0, 9, 1, 1, 9, 2, 0, 9, 2, 1, 9)
	for _, set := range [][]api.MachinePlate{nil, all, all[:4]} {
		checks.Expect(t, "unsure", api.ErrNone, slices.Concat(ofHall(unsure()), toSet(unsure(), set), []checks.Answer{gain(unsure(), 0, 1), gain(unsure(), 0, 0)})...)
	}
	if n, e := machines.Calm(unsure()); n != 3 || e != api.OK {
		t.Errorf("Calm = %d, %d", n, e)
	}
	// There are more bundles than machines.
	never := apart(list(0, 0), list(0), list(0), nil)
	checks.Expect(t, "never", api.ErrNone, append(ofHall(never), calmOf(never), gain(never, 1, 0))...)
	checks.Expect(t, "never", api.ErrNone, toSet(never, all)...)
	// Some sets are enough, but not this one.
	idle, e := machines.Idle(hallK(), all[1:])
	checks.Expect(t, hallK(), api.ErrNone, checks.Said("Idle", e, len(idle) == 0))
}

// P9.2 to P9.11: TestAllCalls holds each call against what the chapter says word by word.
func TestAllCalls(t *testing.T) {
	r := rand.New(rand.NewSource(99))
	seen := map[bool]int{}
	for i, h := range append(someHalls(700, 3), someHalls(60, 5)...) {
		for range 4 {
			plan := somePlan(r, h.House, r.Intn(len(h.Bores)+1)-1)
			if set, e := machines.Need(h, plan); !slices.Equal(set, wantNeed(h, plan)) || e != api.OK {
				t.Errorf("%d: %v: Need(%v) = %v, %d, want %v", i, h, plan, set, e, wantNeed(h, plan))
			}
		}
		enough := wantSets(h, wantCases(h.House))
		checkHall(t, i, h, enough)
		about := wantNeed(h, somePlan(r, h.House, api.MachineNone))
		if len(enough) > 0 {
			about = wantSet(enough)
		}
		all := wantAll(h, wantCases(h.House))
		for range 4 {
			set := someSet(r, about)
			checkCases(t, i, h, set)
			checkSet(t, i, h, set, all, enough)
		}
		seen[len(enough) > 0]++
	}
	if seen[true] < 300 || seen[false] < 80 {
		t.Errorf("only in %v halls a set was enough or not", seen)
	}
}

func checkHall(t *testing.T, i int, h api.MachineHall, enough [][]api.MachinePlate) {
	t.Helper()
	if len(enough) == 0 {
		checks.Expect(t, h, api.ErrNone, append(ofHall(h), gain(h, 0, 0), gain(h, len(h.Bores)-1, 0))...)
	} else {
		want := wantSet(enough)
		n, e1 := machines.Fewest(h)
		set, e2 := machines.Set(h)
		if n != sizeOf(want) || !slices.Equal(set, want) || e1+e2 != api.OK {
			t.Errorf("%d: %v: Fewest = %d, %d; Set = %v, %d, want %v", i, h, n, e1, set, e2, want)
		}
		checkGain(t, i, h, i%len(h.Bores), i/3%len(h.Bores), sizeOf(want))
	}
	without := wantSets(h, list(api.MachineNone))
	if len(without) == 0 {
		checks.Expect(t, h, api.ErrNone, calmOf(h))
		return
	}
	if n, e := machines.Calm(h); n != sizeOf(wantSet(without)) || e != api.OK {
		t.Errorf("%d: %v: Calm = %d, %d, want %v", i, h, n, e, wantSet(without))
	}
}

func checkGain(t *testing.T, i int, h api.MachineHall, one, other, was int) {
	t.Helper()
	with := changed(h, func(h *api.MachineHall) { h.Bores[one] = h.Bores[other] })
	want := was - sizeOf(wantSet(wantSets(with, wantCases(h.House))))
	if n, e := machines.Gain(h, one, other); n != want || e != api.OK {
		t.Errorf("%d: %v: Gain(%d, %d) = %d, %d, want %d", i, h, one, other, n, e, want)
	}
}

// checkCases checks the calls that say for which cases a set does, and what a machine can print.
func checkCases(t *testing.T, i int, h api.MachineHall, set []api.MachinePlate) {
	t.Helper()
	var lacked []int
	for stop := api.MachineNone; stop < len(h.Bores); stop++ {
		want := wantCan(wantNeeds(h, stop), set)
		if does, e := machines.Can(h, set, stop); does != want || e != api.OK {
			t.Errorf("%d: %v: Can(%v, %d) = %v, %d", i, h, set, stop, does, e)
		}
		if !want && slices.Contains(wantCases(h.House), stop) {
			lacked = append(lacked, stop)
		}
	}
	if l, e := machines.Lacks(h, set); !slices.Equal(l, lacked) || e != api.OK {
		t.Errorf("%d: %v: Lacks(%v) = %v, %d, want %v", i, h, set, l, e, lacked)
	}
	for on := range h.Bores {
		if l, e := machines.Fit(h, on, set); !slices.Equal(l, wantFit(h, on, set)) || e != api.OK {
			t.Errorf("%d: %v: Fit(%d, %v) = %v, %d", i, h, on, set, l, e)
		}
	}
}

// checkSet checks what must come to a set, and what can be left out; all is what is needed in each case, and enough the sets that are.
func checkSet(t *testing.T, i int, h api.MachineHall, set []api.MachinePlate, all [][][]api.MachinePlate, enough [][]api.MachinePlate) {
	t.Helper()
	if len(enough) == 0 {
		checks.Expect(t, h, api.ErrNone, toSet(h, set)...)
		return
	}
	if n, e := machines.Extra(h, set); n != wantExtra(set, enough) || e != api.OK {
		t.Errorf("%d: %v: Extra(%v) = %d, %d, want %d", i, h, set, n, e, wantExtra(set, enough))
	}
	l, e := machines.Idle(h, set)
	if !wantEnough(all, set) {
		checks.Expect(t, set, api.ErrNone, checks.Said("Idle", e, len(l) == 0))
		return
	}
	if !slices.Equal(l, wantIdle(all, set)) || e != api.OK {
		t.Errorf("%d: %v: Idle(%v) = %v, %d, want %v", i, h, set, l, e, wantIdle(all, set))
	}
}

// TestLargest asks about halls as large as they can be, in which bundles must be apart, on machines that are not alike.
func TestLargest(t *testing.T) {
	h := changed(largest(0, 1, 2), func(h *api.MachineHall) {
		h.House.Machines = slices.Repeat([]api.TrainMachine{machine(0, 3, 1)}, 3)
		h.Editions = lists(list(0), list(1), list(2), list(3))
	})
	// Of two machines one prints three bundles, of which two are of the edition 3: 81 minutes, and one Change; of three machines one prints two of two editions.
	for i, x := range []struct{ minute, fewest, calm int }{{99, 8, 4}, {90, 8, 4}, {89, -1, 4}, {63, -1, 4}, {62, -1, -1}} {
		h.House.Trains = slices.Repeat(list(x.minute), 4)
		n, e := machines.Fewest(h)
		if x.fewest < 0 && (n != 0 || e != api.ErrNone) || x.fewest >= 0 && (n != x.fewest || e != api.OK) {
			t.Errorf("%d: Fewest = %d, %d, want %d", i, n, e, x.fewest)
		}
		c, e := machines.Calm(h)
		if x.calm < 0 && (c != 0 || e != api.ErrNone) || x.calm >= 0 && (c != x.calm || e != api.OK) {
			t.Errorf("%d: Calm = %d, %d, want %d", i, c, e, x.calm)
		}
	}
}

// R2 to R4: TestMemory looks for memory that is shared or changed, and for what one call leaves to the next one.
func TestMemory(t *testing.T) {
	// The lists have memory behind them that a call might write to.
	h, plan, set := hallK(), lists(list(1), list(0)), slices.Grow(plates(0, 0, 1, 1, 0, 1, 2, 0, 1), 4)
	h.House.Machines, h.House.Bundles, h.House.Trains = slices.Grow(h.House.Machines, 4), slices.Grow(h.House.Bundles, 4), slices.Grow(h.House.Trains, 4)
	h.Bores, h.Editions = slices.Grow(h.Bores, 4), slices.Grow(h.Editions, 4)
	for edition, pages := range h.Editions {
		h.Editions[edition] = slices.Grow(pages, 4)
	}
	for on, l := range plan {
		plan[on] = slices.Grow(l, 4)
	}
	whole := slices.Grow(plates(0, 0, 2, 0, 1, 1, 1, 0, 1, 1, 1, 1, 2, 0, 1, 2, 1, 1), 4)
	for range 2 {
		checks.ExpectNot(t, h, api.ErrArg, gain(h, 1, 0), can(h, set, 0), calmOf(h))
		checks.ExpectNot(t, h, api.ErrArg, append(ofHall(h), toSet(h, set)...)...)
		for i, x := range []struct {
			call func() ([]int, api.Errno)
			want []int
		}{
			{func() ([]int, api.Errno) { return machines.Fit(h, 0, set) }, list(0, 1)}, {func() ([]int, api.Errno) { return machines.Lacks(h, set) }, list(0)},
		} {
			l, e := x.call()
			if !slices.Equal(l, x.want) || e != api.OK {
				t.Errorf("%d: %v, %d, want %v", i, l, e, x.want)
			}
			checks.Spoil(l, -7)
		}
		for i, x := range []struct {
			call func() ([]api.MachinePlate, api.Errno)
			want []api.MachinePlate
		}{
			{func() ([]api.MachinePlate, api.Errno) { return machines.Need(h, plan) }, plates(0, 0, 1, 0, 1, 1, 1, 1, 1, 2, 0, 1)},
			{func() ([]api.MachinePlate, api.Errno) { return machines.Set(h) }, plates(0, 0, 1, 0, 1, 1, 1, 0, 1, 1, 1, 1, 2, 0, 1, 2, 1, 1)},
			{func() ([]api.MachinePlate, api.Errno) { return machines.Idle(h, whole) }, plates(0, 0, 1)},
		} {
			l, e := x.call()
			if !slices.Equal(l, x.want) || e != api.OK {
				t.Errorf("%d: %v, %d, want %v", i, l, e, x.want)
			}
			checks.Spoil(l, api.MachinePlate{Page: -7, Bore: -7, Many: -7})
		}
		if !same(h, hallK()) || !slices.Equal(plan[0], list(1)) || !slices.Equal(plan[1], list(0)) || sizeOf(set) != 3 || sizeOf(whole) != 7 {
			t.Fatalf("an argument was changed: %v, %v, %v, %v", h, plan, set, whole)
		}
		for _, l := range slices.Concat(plan, h.Editions, lists(h.Bores, h.House.Trains)) {
			if !checks.Clean(l) {
				t.Fatalf("what is behind an argument was changed: %v", l)
			}
		}
		if !checks.Clean(set) || !checks.Clean(whole) || !checks.Clean(h.House.Machines) || !checks.Clean(h.House.Bundles) {
			t.Fatal("what is behind an argument was changed")
		}
	}
}

// R3
func TestNilAndEmpty(t *testing.T) {
	empty := bare()
	empty.House.Bundles, empty.House.Trains, empty.Editions = []api.TrainBundle{}, list(), lists()
	for _, h := range []api.MachineHall{bare(), empty} {
		checks.Expect(t, h, api.OK, append(ofHall(h), checks.Said("Check", machines.Check(h), true), calmOf(h), gain(h, 0, 0))...)
		for _, set := range [][]api.MachinePlate{nil, {}} {
			checks.Expect(t, h, api.OK, append(toSet(h, set), lacks(h, set), fit(h, 0, set))...)
			if does, e := machines.Can(h, set, 0); !does || e != api.OK {
				t.Errorf("Can = %v, %d", does, e)
			}
		}
		for _, l := range lists(nil, list()) {
			checks.Expect(t, h, api.OK, need(h, lists(l)))
		}
	}
	for _, none := range lists(nil, list()) {
		h := withK(func(h *api.MachineHall) { h.Editions[1] = none })
		if n, e := machines.Fewest(h); n != 4 || e != api.OK {
			t.Errorf("Fewest = %d, %d", n, e)
		}
		checks.Expect(t, none, api.OK, need(h, lists(list(1), none)))
	}
}
