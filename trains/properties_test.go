package trains_test

import (
	"cmp"
	"math/rand"
	"slices"
	"testing"

	"flong/api"
	"flong/checks"
	"flong/flongs"
	"flong/trains"
)

func isSure(t *testing.T, h api.TrainHouse) bool {
	t.Helper()
	return checks.Must[bool](t, h)(trains.Sure(h))
}

func fewest(t *testing.T, h api.TrainHouse) int {
	t.Helper()
	return checks.Must[int](t, h)(trains.Fewest(h))
}

func told(t *testing.T, h api.TrainHouse) []int {
	t.Helper()
	return checks.Must[[]int](t, h)(trains.Told(h))
}

func late(t *testing.T, h api.TrainHouse, plan [][]int) int {
	t.Helper()
	return len(checks.Must[[]int](t, h)(trains.Late(h, plan)))
}

// leaving returns the house with a train that leaves so much later.
func leaving(h api.TrainHouse, train, later int) api.TrainHouse {
	return changed(h, func(h *api.TrainHouse) { h.Trains[train] += later })
}

// withoutTrains returns the house without the bundles of some trains.
func withoutTrains(h api.TrainHouse, out []int) api.TrainHouse {
	return changed(h, func(h *api.TrainHouse) {
		h.Bundles = slices.DeleteFunc(h.Bundles, func(b api.TrainBundle) bool { return slices.Contains(out, b.Train) })
	})
}

// P4.13
func TestEachPlan(t *testing.T) {
	some := 0
	for _, h := range append(someHouses(500, 3), someHouses(20, 5)...) {
		plan := checks.Must[[][]int](t, h)(trains.Plan(h))
		n := fewest(t, h)
		checkLeast(t, h, none, plan, n)
		for on := range h.Machines {
			stopped := checks.Must[[][]int](t, h)(trains.Without(h, on))
			if len(stopped[on]) > 0 {
				t.Fatalf("%v: Without(%d) = %v", h, on, stopped)
			}
			checkLeast(t, h, on, stopped, late(t, h, stopped))
		}
		if n > 0 {
			some++
		}
	}
	if some < 20 {
		t.Errorf("only in %d houses a train was late", some)
	}
}

// checkLeast checks that by a plan of a case just so many trains are late, by none fewer, and by no lesser one as few.
func checkLeast(t *testing.T, h api.TrainHouse, stop int, plan [][]int, n int) {
	t.Helper()
	if late(t, h, plan) != n {
		t.Fatalf("%v: %d late by the best plan %v", h, n, plan)
	}
	for _, other := range allPlans(h, stop) {
		if m := late(t, h, other); m < n || m == n && comparePlans(other, plan) < 0 {
			t.Fatalf("%v: %d late by the best plan %v, %d by %v", h, n, plan, m, other)
		}
	}
}

// better returns houses that are better than a house, each by one thing.
func better(h api.TrainHouse) []api.TrainHouse {
	var all []api.TrainHouse
	add := func(can bool, change func(h *api.TrainHouse)) {
		if can {
			all = append(all, changed(h, change))
		}
	}
	for i, m := range h.Machines {
		add(m.Pace > 1, func(h *api.TrainHouse) { h.Machines[i].Pace-- })
		add(m.Ready > 0, func(h *api.TrainHouse) { h.Machines[i].Ready-- })
	}
	for i := range h.Trains {
		add(h.Trains[i] < api.MaxTrainMinute, func(h *api.TrainHouse) { h.Trains[i]++ })
	}
	add(h.Change > 0, func(h *api.TrainHouse) { h.Change-- })
	for i := range h.Bundles {
		add(true, func(h *api.TrainHouse) { h.Bundles = slices.Delete(h.Bundles, i, i+1) })
	}
	return all
}

// P4.14
func TestBetter(t *testing.T) {
	fewer, surer := 0, 0
	for _, h := range append(someHouses(400, 4), someHouses(20, 5)...) {
		n, sure, l := fewest(t, h), isSure(t, h), told(t, h)
		for _, b := range better(h) {
			now, is, list := fewest(t, b), isSure(t, b), told(t, b)
			if now > n || sure && !is || len(list) > len(l) {
				t.Fatalf("%v: Fewest = %d; Sure = %v; Told = %v; of %v %d; %v; %v", b, now, is, list, h, n, sure, l)
			}
			if now < n {
				fewer++
			}
			if is && !sure {
				surer++
			}
		}
	}
	if fewer < 50 || surer < 50 {
		t.Errorf("only %d houses had fewer trains that are late, and %d were sure then", fewer, surer)
	}
}

// P4.15
func TestAMachineMore(t *testing.T) {
	r := rand.New(rand.NewSource(15))
	for _, h := range append(someHouses(600, 4), someHouses(20, 5)...) {
		n, sure := fewest(t, h), isSure(t, h)
		for on := range h.Machines {
			if m := late(t, h, checks.Must[[][]int](t, h)(trains.Without(h, on))); m < n {
				t.Fatalf("%v: Fewest = %d, without %d %d", h, n, on, m)
			}
		}
		if len(h.Machines) == api.MaxTrainMachines {
			continue
		}
		more := changed(h, func(h *api.TrainHouse) {
			h.Machines = slices.Insert(h.Machines, r.Intn(len(h.Machines)+1), machine(r.Intn(30), 1+r.Intn(9), 0))
		})
		if now, is := fewest(t, more), isSure(t, more); now > n || sure && !is {
			t.Fatalf("%v: Fewest = %d; Sure = %v; of %v %d; %v", more, now, is, h, n, sure)
		}
	}
}

// P4.16
func TestTold(t *testing.T) {
	seen := map[int]int{}
	for _, h := range append(someHouses(500, 4), someHouses(20, 5)...) {
		l := told(t, h)
		if isSure(t, h) != (len(l) == 0) {
			t.Fatalf("%v: Told = %v; Sure = %v", h, l, isSure(t, h))
		}
		if !isSure(t, withoutTrains(h, l)) {
			t.Fatalf("%v: Told = %v; without them it is not sure", h, l)
		}
		for _, fewer := range groups(len(h.Trains)) {
			if len(fewer) < len(l) && isSure(t, withoutTrains(h, fewer)) {
				t.Fatalf("%v: Told = %v; without %v it is sure", h, l, fewer)
			}
		}
		seen[len(l)]++
	}
	for n := range 4 {
		if seen[n] < 10 {
			t.Errorf("only %d houses had %d trains that must be told", seen[n], n)
		}
	}
}

// P4.17
func TestWaiting(t *testing.T) {
	some, never := 0, 0
	for _, h := range append(someHouses(600, 4), someHouses(20, 5)...) {
		sure := isSure(t, h)
		for train, minute := range h.Trains {
			n, e := trains.Wait(h, train)
			if e != api.OK {
				never++
				if e != api.ErrNone || isSure(t, leaving(h, train, api.MaxTrainMinute-minute)) {
					t.Fatalf("%v: Wait(%d) = %d, %d", h, train, n, e)
				}
				continue
			}
			if sure != (n == 0) || !isSure(t, leaving(h, train, n)) || n > 0 && isSure(t, leaving(h, train, n-1)) {
				t.Fatalf("%v: Wait(%d) = %d; Sure = %v", h, train, n, sure)
			}
			if n > 0 {
				some++
			}
		}
	}
	if some < 50 || never < 50 {
		t.Errorf("only %d trains could wait, and %d could not", some, never)
	}
}

// P4.18
func TestSpare(t *testing.T) {
	some, none := 0, 0
	for _, h := range append(someHouses(1500, 4), someHouses(20, 5)...) {
		n, e := trains.Spare(h)
		if e != api.OK {
			none++
			if e != api.ErrNone || isSure(t, h) {
				t.Fatalf("%v: Spare = %d, %d", h, n, e)
			}
			continue
		}
		for later, sure := range map[int]bool{0: true, n: true, n + 1: false} {
			h := changed(h, func(h *api.TrainHouse) {
				for i := range h.Machines {
					h.Machines[i].Ready += later
				}
			})
			if trains.Check(h) == api.OK && isSure(t, h) != sure {
				t.Fatalf("%v: Spare = %d; all machines ready %d later: sure is not %v", h, n, later, sure)
			}
		}
		if n > 0 {
			some++
		}
	}
	if some < 100 || none < 100 {
		t.Errorf("only %d houses had minutes to spare, and %d none", some, none)
	}
}

// P4.19
func TestAnyOrder(t *testing.T) {
	r := rand.New(rand.NewSource(19))
	for _, h := range append(someHouses(800, 4), someHouses(20, 5)...) {
		turned := changed(h, func(h *api.TrainHouse) {
			r.Shuffle(len(h.Machines), func(i, j int) { h.Machines[i], h.Machines[j] = h.Machines[j], h.Machines[i] })
			r.Shuffle(len(h.Bundles), func(i, j int) { h.Bundles[i], h.Bundles[j] = h.Bundles[j], h.Bundles[i] })
		})
		n, e := trains.Spare(h)
		m, f := trains.Spare(turned)
		if fewest(t, h) != fewest(t, turned) || isSure(t, h) != isSure(t, turned) || !slices.Equal(told(t, h), told(t, turned)) || n != m || e != f {
			t.Fatalf("%v: Fewest = %d; Sure = %v; Told = %v; Spare = %d, %d; turned %d; %v; %v; %d, %d", h,
				fewest(t, h), isSure(t, h), told(t, h), n, e, fewest(t, turned), isSure(t, turned), told(t, turned), m, f)
		}
	}
}

// P4.20
func TestTheOrderOfTheTrains(t *testing.T) {
	seen := map[bool]int{}
	for _, h := range someHouses(2500, 5) {
		h.Machines, h.Change = h.Machines[:1], 0
		order := make([]int, len(h.Bundles))
		for i := range order {
			order[i] = i
		}
		slices.SortStableFunc(order, func(i, j int) int {
			return cmp.Compare(h.Trains[h.Bundles[i].Train], h.Trains[h.Bundles[j].Train])
		})
		some := fewest(t, h) == 0
		if n := late(t, h, lists(order)); (n == 0) != some {
			t.Fatalf("%v: Fewest = %d; %d late by the order of the trains, %v", h, fewest(t, h), n, order)
		}
		if len(order) > 1 {
			seen[some]++
		}
	}
	if seen[true] < 100 || seen[false] < 100 {
		t.Errorf("only %v houses were in time or not", seen)
	}
}

// P0.10
func TestTheBundleThatIsLeftOut(t *testing.T) {
	r := rand.New(rand.NewSource(10))
	seen := map[int]int{}
	for _, h := range append(someHouses(1500, 4), someHouses(100, 5)...) {
		s := someShop(r)
		s.Wants = wanted(h, len(s.Wants))
		if flongs.Check(s) != api.OK {
			continue // more plates of a page than can be wanted
		}
		n, m := checks.Must[int](t, s)(flongs.New(s)), fewest(t, h)
		for i, b := range h.Bundles {
			out := changed(h, func(h *api.TrainHouse) { h.Bundles = slices.Delete(h.Bundles, i, i+1) })
			left := s
			left.Wants = wanted(out, len(s.Wants))
			now := checks.Must[int](t, left)(flongs.New(left))
			if now > n || now < n-b.Hundreds || b.Edition >= len(s.Wants) && now != n || fewest(t, out) > m {
				t.Fatalf("%v, %v: New = %d; Fewest = %d; without the bundle %d %d; %d", h, s, n, m, i, now, fewest(t, out))
			}
			seen[n-now]++
		}
	}
	for _, fewer := range []int{0, 1, 2} {
		if seen[fewer] < 50 {
			t.Errorf("only %v new moulds fewer", seen)
		}
	}
}

// wanted returns how many plates are wanted of so many pages: one for each hundred of the edition of this number.
func wanted(h api.TrainHouse, pages int) []int {
	wants := make([]int, pages)
	for _, b := range h.Bundles {
		if b.Edition < pages {
			wants[b.Edition] += b.Hundreds
		}
	}
	return wants
}

// someShop has a world that agrees, and few casts left, so that new moulds must be beaten often.
func someShop(r *rand.Rand) api.FlongShop {
	s := api.FlongShop{Wants: make([]int, 1+r.Intn(api.MaxFlongPages)), Worlds: lists(nil, nil), Fresh: 1 + r.Intn([]int{1, 3, 12}[r.Intn(3)])}
	for range r.Intn(api.MaxFlongMoulds) {
		used := r.Intn(4)
		s.Moulds = append(s.Moulds, api.FlongMould{Page: r.Intn(len(s.Wants)), Used: used})
		s.Worlds[0] = append(s.Worlds[0], used+r.Intn(4))
		s.Worlds[1] = append(s.Worlds[1], used+r.Intn(4))
	}
	return s
}
