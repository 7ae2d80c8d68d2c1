package pours_test

import (
	"math/rand"
	"slices"
	"testing"

	"flong/api"
	"flong/checks"
	"flong/flongs"
	"flong/pours"
	"flong/trains"
)

func best(t *testing.T, s api.PourShop) int {
	t.Helper()
	return checks.Must[int](t, s)(pours.Best(s))
}

func quickest(t *testing.T, s api.PourShop) int {
	t.Helper()
	return checks.Must[int](t, s)(pours.Least(s))
}

func ready(t *testing.T, s api.PourShop, order []int, job int) api.Span {
	t.Helper()
	return checks.Must[api.Span](t, s)(pours.Ready(s, order, job))
}

// end returns the minute at which the last plate of an order is surely ready.
func end(t *testing.T, s api.PourShop, order []int) int {
	t.Helper()
	if len(order) == 0 {
		return 0
	}
	return ready(t, s, order, order[len(order)-1]).High
}

// allWorth returns what all plates are worth together.
func allWorth(s api.PourShop) int {
	sum := 0
	for _, j := range s.Jobs {
		sum += j.Worth
	}
	return sum
}

// withoutJob returns the shop without a job.
func withoutJob(s api.PourShop, job int) api.PourShop {
	return changed(s, func(s *api.PourShop) { s.Jobs = slices.Delete(s.Jobs, job, job+1) })
}

// P5.14
func TestEachTruth(t *testing.T) {
	r := rand.New(rand.NewSource(14))
	seen := map[int]int{}
	for _, s := range append(someShops(600, 5, 3), someShops(100, 3, 10)...) {
		order := someOrder(r, s)
		worth := checks.Must[api.Span](t, s)(pours.Worth(s, order))
		for _, x := range stories(s, order) {
			if x.worth < worth.Low || x.worth > worth.High {
				t.Fatalf("%v, %v: Worth = %v, in a truth %d", s, order, worth, x.worth)
			}
			for n := range s.Jobs {
				k := checks.Must[int](t, s)(pours.InTime(s, order, n))
				if k == api.Surely && !x.inTime[n] || k == api.Never && x.inTime[n] {
					t.Fatalf("%v, %v: InTime(%d) = %d, in a truth %v", s, order, n, k, x.inTime[n])
				}
				if !slices.Contains(order, n) {
					continue
				}
				if m := ready(t, s, order, n); x.ready[n] < m.Low || x.ready[n] > m.High {
					t.Fatalf("%v, %v: Ready(%d) = %v, in a truth %d", s, order, n, m, x.ready[n])
				}
				seen[k]++
			}
		}
	}
	if seen[api.Surely] < 1000 || seen[api.Never] < 1000 || seen[api.Perhaps] < 1000 {
		t.Errorf("plates that are in time surely (1), never (2) and perhaps (3): %v", seen)
	}
}

// P5.15
func TestTheBestOrder(t *testing.T) {
	seen := map[bool]int{}
	for _, s := range append(someShops(300, 5, 10), someShops(30, 6, 10)...) {
		b := best(t, s)
		order := checks.Must[[]int](t, s)(pours.Order(s))
		if w := checks.Must[api.Span](t, s)(pours.Worth(s, order)); w.Low != b {
			t.Fatalf("%v: Best = %d; Order = %v, with a worth of %v", s, b, order, w)
		}
		all := false
		for _, other := range allOrders(s) {
			w := checks.Must[api.Span](t, s)(pours.Worth(s, other))
			if w.Low > b || w.Low == b && slices.Compare(other, order) < 0 {
				t.Fatalf("%v: Best = %d; Order = %v; the worth of %v is %v", s, b, order, other, w)
			}
			late := func(n int) bool { return checks.Must[int](t, s)(pours.InTime(s, other, n)) != api.Surely }
			all = all || len(other) == len(s.Jobs) && !slices.ContainsFunc(other, late)
		}
		// A plate that is worth nothing may be late, and Best is the worth of all jobs all the same.
		worthless := slices.ContainsFunc(s.Jobs, func(j api.PourJob) bool { return j.Worth == 0 })
		if b > allWorth(s) || all && b < allWorth(s) || !all && !worthless && b == allWorth(s) {
			t.Fatalf("%v: Best = %d; all are worth %d; by some order all are in time: %v", s, b, allWorth(s), all)
		}
		if n := checks.Must[int](t, s)(pours.Most(s)); (n == len(s.Jobs)) != all {
			t.Fatalf("%v: Most = %d; by some order all are in time: %v", s, n, all)
		}
		seen[all]++
	}
	if seen[true] < 50 || seen[false] < 50 {
		t.Errorf("only in %v shops all were in time or not", seen)
	}
}

// P5.16
func TestTheRule(t *testing.T) {
	other := 0
	for _, s := range append(someShops(500, 5, 10), someShops(100, 6, 10)...) {
		minute := quickest(t, s)
		rule := checks.Must[[]int](t, s)(pours.Rule(s))
		quick := checks.Must[[]int](t, s)(pours.Quick(s))
		if len(rule) != len(s.Jobs) || end(t, s, rule) != minute || len(quick) != len(s.Jobs) || end(t, s, quick) != minute {
			t.Fatalf("%v: Least = %d; Rule = %v, until %d; Quick = %v, until %d", s, minute, rule, end(t, s, rule), quick, end(t, s, quick))
		}
		for _, order := range wholeOrders(s) {
			if n := end(t, s, order); n < minute || n == minute && slices.Compare(order, quick) < 0 {
				t.Fatalf("%v: Least = %d; Quick = %v; %v until %d", s, minute, quick, order, n)
			}
		}
		if !slices.Equal(rule, quick) {
			other++
		}
	}
	if other < 50 {
		t.Errorf("only in %d shops Rule was not Quick", other)
	}
}

// P5.17
func TestBounds(t *testing.T) {
	seen := map[int]int{}
	for _, s := range someShops(2000, 6, 10)[1:] {
		if len(s.Jobs) == 0 {
			continue
		}
		beats, pourings, behind, ahead, longest := 0, 0, most, most, 0
		for _, j := range s.Jobs {
			beats += j.Beat
			pourings += j.Pour
			behind = min(behind, j.Dry.High+j.Pour)
			ahead = min(ahead, j.Beat+j.Dry.High)
			longest = max(longest, j.Beat+j.Dry.High+j.Pour)
		}
		n := quickest(t, s)
		for which, bound := range []int{longest, beats + behind, ahead + pourings} {
			if n < bound {
				t.Fatalf("%v: Least = %d; the bound %d is %d", s, n, which, bound)
			}
			if n == bound {
				seen[which]++
			}
		}
	}
	for which := range 3 {
		if seen[which] < 50 {
			t.Errorf("only in %d shops Least was the bound %d", seen[which], which)
		}
	}
}

// change is something that is done to a shop, if it can be done.
type change struct {
	can bool
	do  func(s *api.PourShop)
}

// quicker has what makes a job take less.
func quicker(job int, j api.PourJob) []change {
	return []change{
		{j.Beat > 1, func(s *api.PourShop) { s.Jobs[job].Beat-- }},
		{j.Pour > 1, func(s *api.PourShop) { s.Jobs[job].Pour-- }},
		{j.Dry.High > j.Dry.Low, func(s *api.PourShop) { s.Jobs[job].Dry.High-- }},
		{j.Dry.Low > 0, func(s *api.PourShop) { s.Jobs[job].Dry = span(j.Dry.Low-1, j.Dry.High-1) }},
	}
}

// better has what makes a job worth more, or nearer to it.
func better(job int, j api.PourJob) []change {
	return append(
		quicker(job, j),
		change{j.Dry.High > j.Dry.Low, func(s *api.PourShop) { s.Jobs[job].Dry.Low++ }},
		change{j.Due < api.MaxPourDue, func(s *api.PourShop) { s.Jobs[job].Due++ }},
		change{j.Worth < api.MaxPourWorth, func(s *api.PourShop) { s.Jobs[job].Worth++ }},
	)
}

// P5.18
func TestBetter(t *testing.T) {
	r := rand.New(rand.NewSource(18))
	more, less := 0, 0
	for _, s := range append(someShops(400, 4, 10), someShops(30, 5, 10)...) {
		b, n := best(t, s), quickest(t, s)
		for job, j := range s.Jobs {
			for i, c := range better(job, j) {
				if !c.can {
					continue
				}
				if now := best(t, changed(s, c.do)); now < b {
					t.Fatalf("%v: Best = %d; with the change %d of %d it is %d", s, b, i, job, now)
				} else if now > b {
					more++
				}
			}
			for i, c := range append(quicker(job, j), change{true, func(s *api.PourShop) { *s = withoutJob(*s, job) }}) {
				if !c.can {
					continue
				}
				if now := quickest(t, changed(s, c.do)); now > n {
					t.Fatalf("%v: Least = %d; with the change %d of %d it is %d", s, n, i, job, now)
				} else if now < n {
					less++
				}
			}
		}
		added := changed(s, func(s *api.PourShop) {
			s.Jobs = slices.Insert(s.Jobs, r.Intn(len(s.Jobs)+1), job(1+r.Intn(9), 0, r.Intn(10), 1+r.Intn(9), r.Intn(60), r.Intn(9)))
		})
		if now := best(t, added); now < b {
			t.Fatalf("%v: Best = %d; of %v it was %d", added, now, s, b)
		}
	}
	if more < 100 || less < 100 {
		t.Errorf("only %d changes made Best more, and %d made Least less", more, less)
	}
}

// P5.19
func TestLeftOut(t *testing.T) {
	r := rand.New(rand.NewSource(19))
	earlier := 0
	for _, s := range someShops(1000, 6, 10) {
		order := someOrder(r, s)
		for place := range order {
			out := slices.Delete(slices.Clone(order), place, place+1)
			for _, n := range out {
				was, now := ready(t, s, order, n), ready(t, s, out, n)
				if now.Low > was.Low || now.High > was.High {
					t.Fatalf("%v: Ready of %v, %d = %v; of %v %v", s, order, n, was, out, now)
				}
				if now != was {
					earlier++
				}
			}
		}
	}
	if earlier < 500 {
		t.Errorf("only %d plates were ready earlier", earlier)
	}
}

// P5.20
func TestTheOtherWayRound(t *testing.T) {
	for _, s := range append(someShops(1000, 5, 10), someShops(100, 6, 10)...) {
		turned := changed(s, func(s *api.PourShop) {
			for n, j := range s.Jobs {
				s.Jobs[n].Beat, s.Jobs[n].Pour = j.Pour, j.Beat
			}
		})
		if one, other := quickest(t, s), quickest(t, turned); one != other {
			t.Fatalf("%v: Least = %d, the other way round %d", s, one, other)
		}
	}
}

// P5.21
func TestHowLongItCanDry(t *testing.T) {
	seen := map[bool]int{}
	for _, s := range append(someShops(500, 4, 10), someShops(30, 6, 10)...) {
		b := best(t, s)
		order := checks.Must[[]int](t, s)(pours.Order(s))
		for job, j := range s.Jobs {
			high := checks.Must[int](t, s)(pours.Wait(s, job))
			with := func(high int) api.PourShop {
				return changed(s, func(s *api.PourShop) { s.Jobs[job].Dry.High = high })
			}
			if high < j.Dry.High || high > api.MaxPourMinutes || best(t, with(high)) != b {
				t.Fatalf("%v: Wait(%d) = %d", s, job, high)
			}
			if high < api.MaxPourMinutes && best(t, with(high+1)) >= b {
				t.Fatalf("%v: Wait(%d) = %d; with 1 more Best is not less", s, job, high)
			}
			if !slices.Contains(order, job) && high != api.MaxPourMinutes {
				t.Fatalf("%v: Wait(%d) = %d; Order = %v", s, job, high, order)
			}
			seen[high < api.MaxPourMinutes]++
		}
	}
	if seen[true] < 100 || seen[false] < 100 {
		t.Errorf("only %v jobs could not dry as long as they will, or could", seen)
	}
}

// P5.22
func TestOtherNumbers(t *testing.T) {
	r := rand.New(rand.NewSource(22))
	for _, s := range append(someShops(500, 4, 10), someShops(50, 6, 10)...) {
		turned := api.PourShop{Jobs: make([]api.PourJob, len(s.Jobs))}
		places := r.Perm(len(s.Jobs))
		for n, place := range places {
			turned.Jobs[place] = s.Jobs[n]
		}
		one, other := checks.Must[int](t, s)(pours.Most(s)), checks.Must[int](t, turned)(pours.Most(turned))
		if one != other || best(t, s) != best(t, turned) || quickest(t, s) != quickest(t, turned) {
			t.Fatalf("%v: Best = %d; Most = %d; Least = %d; turned %d; %d; %d", s, best(t, s), one, quickest(t, s), best(t, turned), other, quickest(t, turned))
		}
		for n, place := range places {
			if k, m := checks.Must[int](t, s)(pours.Must(s, n)), checks.Must[int](t, turned)(pours.Must(turned, place)); k != m {
				t.Fatalf("%v: Must(%d) = %d; turned %d", s, n, k, m)
			}
		}
	}
}

// someMoulds is a shop of moulds in which some world agrees, and for which at most as many new ones must be beaten as there can be jobs.
func someMoulds(t *testing.T, r *rand.Rand) (api.FlongShop, int) {
	t.Helper()
	for {
		s := api.FlongShop{Worlds: lists(nil, nil), Fresh: 1 + r.Intn([]int{2, 6}[r.Intn(2)])}
		for range 1 + r.Intn(api.MaxFlongPages) {
			s.Wants = append(s.Wants, r.Intn(8))
		}
		for range r.Intn(api.MaxFlongMoulds + 1) {
			used := r.Intn(3)
			s.Moulds = append(s.Moulds, api.FlongMould{Page: r.Intn(len(s.Wants)), Used: used})
			s.Worlds[0], s.Worlds[1] = append(s.Worlds[0], used+r.Intn(3)), append(s.Worlds[1], used+r.Intn(5))
		}
		if n := checks.Must[int](t, s)(flongs.New(s)); n > 0 && n <= api.MaxPourJobs {
			return s, n
		}
	}
}

// P0.2
func TestTheNewMoulds(t *testing.T) {
	r := rand.New(rand.NewSource(2))
	seen := map[int]int{}
	for range 600 {
		moulds, n := someMoulds(t, r)
		low := r.Intn(10)
		j := job(1+r.Intn(9), low, low+r.Intn(10-low), 1+r.Intn(9), r.Intn(80), 1)
		s := alike(n, j)
		order := checks.Must[[]int](t, s)(pours.Rule(s))
		first, inTime := ready(t, s, order, order[0]), 0
		for place, k := range order {
			later := place * max(j.Beat, j.Pour)
			if m := ready(t, s, order, k); m != span(first.Low+later, first.High+later) {
				t.Fatalf("%v: the plate %d is ready %v, the first one %v", s, place, m, first)
			}
			if first.High+later <= j.Due {
				inTime++
			}
		}
		last := first.High + (n-1)*max(j.Beat, j.Pour)
		if m := checks.Must[int](t, s)(pours.Most(s)); m != inTime || best(t, s) != inTime || quickest(t, s) != last {
			t.Fatalf("%v: Most = %d; Best = %d; in time are %d; Least = %d, the last one %d", s, m, best(t, s), inTime, quickest(t, s), last)
		}
		seen[checkOnePlateMore(t, moulds, j, last)-n]++
	}
	if seen[0] < 50 || seen[1] < 50 {
		t.Errorf("with one plate more: %v new moulds more", seen)
	}
}

// checkOnePlateMore checks that with one plate more that is wanted of a page the last one is not earlier; it returns how many new moulds there are then, of the page with which there are the most.
func checkOnePlateMore(t *testing.T, moulds api.FlongShop, j api.PourJob, last int) int {
	t.Helper()
	moulds.Wants = slices.Clone(moulds.Wants)
	greatest := 0
	for page := range moulds.Wants {
		moulds.Wants[page]++
		n := checks.Must[int](t, moulds)(flongs.New(moulds))
		moulds.Wants[page]--
		greatest = max(greatest, n)
		if n > api.MaxPourJobs {
			continue
		}
		if minute := quickest(t, alike(n, j)); minute < last {
			t.Fatalf("%v: Least of %d = %d, with one plate less %d", j, n, minute, last)
		}
	}
	return greatest
}

// someHouse has trains that leave some time after a minute at which the plates may be ready.
func someHouse(r *rand.Rand, minute int) api.TrainHouse {
	h := api.TrainHouse{Change: r.Intn(4)}
	for range 1 + r.Intn(2) {
		h.Machines = append(h.Machines, api.TrainMachine{Pace: 1 + r.Intn(3), Stops: r.Intn(2)})
	}
	for range 1 + r.Intn(api.MaxTrains) {
		h.Trains = append(h.Trains, min(minute+r.Intn(30), api.MaxTrainMinute))
	}
	for range 1 + r.Intn(3) {
		h.Bundles = append(h.Bundles, api.TrainBundle{Train: r.Intn(len(h.Trains)), Hundreds: 1 + r.Intn(4), Edition: r.Intn(2)})
	}
	return h
}

// from returns the house whose machines are ready at a minute.
func from(h api.TrainHouse, minute int) api.TrainHouse {
	h.Machines = slices.Clone(h.Machines)
	for i := range h.Machines {
		h.Machines[i].Ready = minute
	}
	return h
}

// P0.3
func TestTheRuleAndTheTrains(t *testing.T) {
	r := rand.New(rand.NewSource(3))
	fewer, surer := 0, 0
	for _, s := range append(someShops(250, 4, 10), someShops(30, 5, 10)...) {
		h := someHouse(r, quickest(t, s))
		late := func(order []int) (int, bool) {
			h := from(h, end(t, s, order))
			return checks.Must[int](t, h)(trains.Fewest(h)), checks.Must[bool](t, h)(trains.Sure(h))
		}
		n, sure := late(checks.Must[[]int](t, s)(pours.Rule(s)))
		if m, is := late(checks.Must[[]int](t, s)(pours.Quick(s))); m != n || is != sure {
			t.Fatalf("%v, %v: %d late, sure %v by the rule; %d, %v by the quickest order", s, h, n, sure, m, is)
		}
		for _, order := range wholeOrders(s) {
			m, is := late(order)
			if m < n || is && !sure {
				t.Fatalf("%v, %v: %d late, sure %v by the rule; %d, %v by %v", s, h, n, sure, m, is, order)
			}
			if m > n {
				fewer++
			}
			if sure && !is {
				surer++
			}
		}
	}
	if fewer < 100 || surer < 50 {
		t.Errorf("only %d orders made more trains late, and by %d a house was not sure any more", fewer, surer)
	}
}
