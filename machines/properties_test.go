package machines_test

import (
	"math/rand"
	"slices"
	"testing"

	"flong/api"
	"flong/checks"
	"flong/flongs"
	"flong/machines"
	"flong/trains"
)

// mixed returns halls of all sorts, with few bundles and with many.
func mixed(few, many int) []api.MachineHall { return append(someHalls(few, 3), someHalls(many, 5)...) }

func needOf(t *testing.T, h api.MachineHall, plan [][]int) []api.MachinePlate {
	t.Helper()
	return checks.Must[[]api.MachinePlate](t, h)(machines.Need(h, plan))
}

func lackedBy(t *testing.T, h api.MachineHall, set []api.MachinePlate) []int {
	t.Helper()
	return checks.Must[[]int](t, h)(machines.Lacks(h, set))
}

func does(t *testing.T, h api.MachineHall, set []api.MachinePlate, stop int) bool {
	t.Helper()
	return checks.Must[bool](t, h)(machines.Can(h, set, stop))
}

func isSure(t *testing.T, h api.MachineHall) bool {
	t.Helper()
	return checks.Must[bool](t, h)(trains.Sure(h.House))
}

// about returns a set that is enough, or if none is the plates of some plan.
func about(t *testing.T, r *rand.Rand, h api.MachineHall) []api.MachinePlate {
	t.Helper()
	if set, e := machines.Set(h); e == api.OK {
		return set
	}
	return needOf(t, h, somePlan(r, h.House, api.MachineNone))
}

// setsOf returns some sets for a hall, that with the fewest plates among them if one is enough.
func setsOf(t *testing.T, r *rand.Rand, h api.MachineHall) [][]api.MachinePlate {
	t.Helper()
	sets := [][]api.MachinePlate{nil, about(t, r, h)}
	for range 3 {
		sets = append(sets, someSet(r, sets[1]))
	}
	return sets
}

// within reports whether all numbers of a list are in another one.
func within(one, other []int) bool {
	return !slices.ContainsFunc(one, func(n int) bool { return !slices.Contains(other, n) })
}

// everything is the greatest set that there is.
func everything() []api.MachinePlate {
	var set []api.MachinePlate
	for page := range api.MaxMachinePages {
		for bore := range api.MaxMachineBores {
			set = append(set, plates(page, bore, api.MaxMachineMany)...)
		}
	}
	return set
}

// P9.12
func TestEnough(t *testing.T) {
	seen := map[bool]int{}
	for _, h := range mixed(250, 10) {
		n, e1 := machines.Fewest(h)
		set, e2 := machines.Set(h)
		sure := isSure(t, h)
		seen[sure]++
		if e1 != e2 || sure != (e1 == api.OK) || sure != (len(lackedBy(t, h, everything())) == 0) {
			t.Fatalf("%v: Fewest = %d, %d; Set = %v, %d; sure is %v", h, n, e1, set, e2, sure)
		}
		if !sure {
			continue
		}
		if sizeOf(set) != n || len(lackedBy(t, h, set)) > 0 {
			t.Fatalf("%v: Fewest = %d; Set = %v, which lacks %v", h, n, set, lackedBy(t, h, set))
		}
		for i, other := range allSets(h) {
			if sizeOf(other) < n && (n < 5 || i%13 == 0) && len(lackedBy(t, h, other)) == 0 {
				t.Fatalf("%v: Fewest = %d; %v is enough", h, n, other)
			}
		}
	}
	if seen[true] < 100 || seen[false] < 30 {
		t.Errorf("only %v halls were sure or not", seen)
	}
}

// P9.13
func TestOnePlan(t *testing.T) {
	r := rand.New(rand.NewSource(13))
	some, stops := 0, 0
	for _, h := range mixed(600, 200) {
		for range 5 {
			plan := somePlan(r, h.House, r.Intn(len(h.Bores)+1)-1)
			set := needOf(t, h, plan)
			late := checks.Must[[]int](t, h)(trains.Late(h.House, plan))
			for on, l := range plan {
				fit := checks.Must[[]int](t, h)(machines.Fit(h, on, set))
				if slices.ContainsFunc(l, func(i int) bool { return !slices.Contains(fit, h.House.Bundles[i].Edition) }) {
					t.Fatalf("%v: Need(%v) = %v, from which %d can print %v", h, plan, set, on, fit)
				}
			}
			if len(late) > 0 {
				continue
			}
			some++
			if !does(t, h, set, api.MachineNone) {
				t.Fatalf("%v: Need(%v) = %v, which does not do", h, plan, set)
			}
			for stop, l := range plan {
				if len(l) > 0 {
					continue
				}
				stops++
				if !does(t, h, set, stop) {
					t.Fatalf("%v: Need(%v) = %v, which does not do for the stop of %d", h, plan, set, stop)
				}
			}
		}
	}
	if some < 1000 || stops < 500 {
		t.Errorf("only by %d plans no train was late, and they had %d empty lists", some, stops)
	}
}

// P9.14
func TestMorePlates(t *testing.T) {
	r := rand.New(rand.NewSource(14))
	fewer, less, more := 0, 0, 0
	for _, h := range mixed(200, 20) {
		for _, set := range setsOf(t, r, h) {
			page, bore := r.Intn(api.MaxMachinePages), h.Bores[r.Intn(len(h.Bores))]
			many := checks.ManyOf(set, page, bore)
			if many == api.MaxMachineMany {
				continue
			}
			larger := checks.Put(set, page, bore, many+1)
			was, is := lackedBy(t, h, set), lackedBy(t, h, larger)
			n, e := machines.Extra(h, set)
			m, f := machines.Extra(h, larger)
			if !within(is, was) || e != f || m != n && m != n-1 {
				t.Fatalf("%v: Lacks(%v) = %v; Extra = %d, %d; of %v %v; %d, %d", h, set, was, n, e, larger, is, m, f)
			}
			for on := range h.Bores {
				fit := checks.Must[[]int](t, h)(machines.Fit(h, on, set))
				now := checks.Must[[]int](t, h)(machines.Fit(h, on, larger))
				if !within(fit, now) {
					t.Fatalf("%v: Fit(%d, %v) = %v; of %v %v", h, on, set, fit, larger, now)
				}
				more += len(now) - len(fit)
			}
			fewer += len(was) - len(is)
			less += n - m
		}
	}
	if fewer < 30 || less < 50 || more < 100 {
		t.Errorf("only %d cases fewer, %d plates less, and %d editions more", fewer, less, more)
	}
}

// P9.15
func TestExtra(t *testing.T) {
	r := rand.New(rand.NewSource(15))
	seen := map[int]int{}
	for _, h := range mixed(600, 100) {
		fewest, e := machines.Fewest(h)
		for i, set := range setsOf(t, r, h) {
			n, f := machines.Extra(h, set)
			if e != f || i == 0 && n != fewest || fewest > n+sizeOf(set) {
				t.Fatalf("%v: Extra(%v) = %d, %d; Fewest = %d, %d", h, set, n, f, fewest, e)
			}
			if e == api.OK && (n == 0) != (len(lackedBy(t, h, set)) == 0) {
				t.Fatalf("%v: Extra(%v) = %d; Lacks = %v", h, set, n, lackedBy(t, h, set))
			}
			if i > 0 && e == api.OK {
				seen[min(n, 2)]++
			}
		}
	}
	for n := range 3 {
		if seen[n] < 40 {
			t.Errorf("only %v sets with so many more", seen)
		}
	}
}

// P9.16
func TestIdle(t *testing.T) {
	r := rand.New(rand.NewSource(16))
	some, none := 0, 0
	for _, h := range mixed(200, 20) {
		fewest, _ := machines.Fewest(h)
		for _, set := range setsOf(t, r, h) {
			idle, e := machines.Idle(h, set)
			if enough := len(lackedBy(t, h, set)) == 0; !enough {
				checks.Expect(t, h, api.ErrNone, checks.Said("Idle", e, len(idle) == 0))
				continue
			}
			if e != api.OK || sizeOf(set) == fewest && len(idle) > 0 {
				t.Fatalf("%v: Idle(%v) = %v, %d; Fewest = %d", h, set, idle, e, fewest)
			}
			for _, p := range set {
				n := checks.ManyOf(idle, p.Page, p.Bore)
				if len(lackedBy(t, h, checks.Put(set, p.Page, p.Bore, p.Many-n))) > 0 {
					t.Fatalf("%v: Idle(%v) = %v; without as many it is not enough", h, set, idle)
				}
				if n < p.Many && len(lackedBy(t, h, checks.Put(set, p.Page, p.Bore, p.Many-n-1))) == 0 {
					t.Fatalf("%v: Idle(%v) = %v; without 1 more it is enough", h, set, idle)
				}
				some += n
				if n == 0 {
					none++
				}
			}
		}
	}
	if some < 200 || none < 200 {
		t.Errorf("only %d plates could be left out, and of %d none", some, none)
	}
}

// P9.17
func TestCalm(t *testing.T) {
	fewer := 0
	for _, h := range mixed(1000, 300) {
		n, e := machines.Fewest(h)
		c, f := machines.Calm(h)
		m, g := machines.Fewest(calm(h))
		if !checks.NotGreater(c, f, n, e) || c != m || f != g {
			t.Fatalf("%v: Fewest = %d, %d; Calm = %d, %d; Fewest if none may stop %d, %d", h, n, e, c, f, m, g)
		}
		if e == api.OK && c < n {
			fewer++
		}
	}
	if fewer < 30 {
		t.Errorf("only %d halls needed more because machines may stop", fewer)
	}
}

// P9.18
func TestBores(t *testing.T) {
	seen := map[int]int{}
	for _, h := range mixed(1000, 200) {
		n, e := machines.Fewest(h)
		for bore := range api.MaxMachineBores {
			all := changed(h, func(h *api.MachineHall) { h.Bores = slices.Repeat(list(bore), len(h.Bores)) })
			m, f := machines.Fewest(all)
			if !checks.NotGreater(m, f, n, e) || e != f {
				t.Fatalf("%v: Fewest = %d, %d; with the bore %d alone %d, %d", h, n, e, bore, m, f)
			}
		}
		for one := range h.Bores {
			for other := range h.Bores {
				m, f := machines.Gain(h, one, other)
				if e != f || h.Bores[one] == h.Bores[other] && m != 0 {
					t.Fatalf("%v: Fewest = %d, %d; Gain(%d, %d) = %d, %d", h, n, e, one, other, m, f)
				}
				seen[max(-1, min(m, 1))]++
			}
		}
	}
	if seen[-1] < 10 || seen[1] < 30 {
		t.Errorf("only %v machines were better with another bore, or worse", seen)
	}
}

// P9.19
func TestFewerPages(t *testing.T) {
	fewer := 0
	for _, h := range mixed(400, 100) {
		n, e := machines.Fewest(h)
		for edition, pages := range h.Editions {
			for place := range pages {
				left := changed(h, func(h *api.MachineHall) { h.Editions[edition] = slices.Delete(h.Editions[edition], place, place+1) })
				m, f := machines.Fewest(left)
				if e != f || m > n || m < n-len(h.Bores) {
					t.Fatalf("%v: Fewest = %d, %d; without a page %v %d, %d", h, n, e, left, m, f)
				}
				fewer += n - m
			}
		}
	}
	if fewer < 200 {
		t.Errorf("only %d plates fewer", fewer)
	}
}

// P9.20
func TestBetterTrains(t *testing.T) {
	r := rand.New(rand.NewSource(20))
	better := 0
	check := func(h, with api.MachineHall) {
		t.Helper()
		n, e := machines.Fewest(h)
		m, f := machines.Fewest(with)
		if !checks.NotGreater(m, f, n, e) {
			t.Fatalf("%v: Fewest = %d, %d; of %v %d, %d", h, n, e, with, m, f)
		}
		if m < n || e != f {
			better++
		}
	}
	for _, h := range mixed(300, 100) {
		for train, minute := range h.House.Trains {
			later := min(minute+1+r.Intn(12), api.MaxTrainMinute)
			check(h, changed(h, func(h *api.MachineHall) { h.House.Trains[train] = later }))
		}
		for on := range h.Bores {
			check(h, changed(h, func(h *api.MachineHall) { h.House.Machines[on].Stops = 0 }))
		}
	}
	if better < 80 {
		t.Errorf("only %d halls were better", better)
	}
}

// P0.5
func TestThePlatesThatMustBeCast(t *testing.T) {
	r := rand.New(rand.NewSource(5))
	seen := map[int]int{}
	for _, h := range mixed(700, 300) {
		set, e := machines.Set(h)
		if e != api.OK {
			continue
		}
		s := someShop(r)
		for page := range s.Wants {
			for bore := range api.MaxMachineBores {
				s.Wants[page] += checks.ManyOf(set, page, bore)
			}
		}
		n := checks.Must[int](t, s)(flongs.New(s))
		sure, each := true, 0
		for page, want := range s.Wants {
			sure = sure && checks.Must[int](t, s)(flongs.Sure(s, page)) >= want
			alone := s
			alone.Wants = make([]int, len(s.Wants))
			alone.Wants[page] = want
			each += checks.Must[int](t, alone)(flongs.New(alone))
		}
		_, e = flongs.Divide(s)
		if (n == 0) != sure || sure != (e == api.OK) || !sure && e != api.ErrNone || n != each {
			t.Fatalf("%v, %v: New = %d; surely cast: %v; Divide: %d; New of each page %d", set, s, n, sure, e, each)
		}
		if sizeOf(set) > 0 {
			seen[min(n, 2)]++
		}
	}
	for n := range 3 {
		if seen[n] < 50 {
			t.Errorf("only %v shops with so many new moulds", seen)
		}
	}
}

// someShop has three pages, some moulds that last a few casts, and a world that agrees; nothing is wanted of it yet.
func someShop(r *rand.Rand) api.FlongShop {
	s := api.FlongShop{Wants: make([]int, 3), Worlds: lists(nil, nil), Fresh: 1 + r.Intn(3)}
	for range r.Intn(api.MaxFlongMoulds + 1) {
		used := r.Intn(4)
		s.Moulds = append(s.Moulds, api.FlongMould{Page: r.Intn(3), Used: used})
		s.Worlds[0] = append(s.Worlds[0], used+r.Intn(4))
		s.Worlds[1] = append(s.Worlds[1], used+r.Intn(4))
	}
	return s
}

// P0.6
func TestThePlansAndTheirPlates(t *testing.T) {
	seen := map[bool]int{}
	for _, h := range mixed(500, 200) {
		sure := isSure(t, h)
		seen[sure]++
		if !sure {
			checks.Expect(t, h, api.ErrNone, ofHall(h)...)
			if len(lackedBy(t, h, everything())) == 0 {
				t.Fatalf("%v: it is not sure, but a set is enough", h)
			}
			continue
		}
		// They are enough, too, if each plate is counted only in that case in which there are the most such ones.
		all := needOf(t, h, checks.Must[[][]int](t, h)(trains.Plan(h.House)))
		most := slices.Clone(all)
		for on, m := range h.House.Machines {
			if m.Stops == 0 {
				continue
			}
			set := needOf(t, h, checks.Must[[][]int](t, h)(trains.Without(h.House, on)))
			all = together(all, set)
			for _, p := range set {
				most = checks.Put(most, p.Page, p.Bore, max(p.Many, checks.ManyOf(most, p.Page, p.Bore)))
			}
		}
		n := checks.Must[int](t, h)(machines.Fewest(h))
		if sizeOf(most) < n || len(lackedBy(t, h, all)) > 0 || len(lackedBy(t, h, most)) > 0 {
			t.Fatalf("%v: Fewest = %d; the plates of all plans are %v, %v", h, n, all, most)
		}
	}
	if seen[true] < 200 || seen[false] < 50 {
		t.Errorf("only %v halls were sure or not", seen)
	}
}
