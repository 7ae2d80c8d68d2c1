package weeks_test

import (
	"math/rand"
	"slices"
	"testing"

	"flong/api"
	"flong/checks"
	"flong/metal"
	"flong/weeks"
)

func safeOf(t *testing.T, f api.WeekFoundry, plan [][]int) int {
	t.Helper()
	return checks.Must[int](t, f)(weeks.Safe(f, plan))
}

func lastOf(t *testing.T, f api.WeekFoundry) int {
	t.Helper()
	return checks.Must[int](t, f)(weeks.Last(f))
}

// nothing is the plan by which nothing is added.
func nothing(f api.WeekFoundry) [][]int {
	return slices.Repeat(lists(make([]int, len(f.Shop.Pigs))), len(f.Nights))
}

func costOf(f api.WeekFoundry, plan [][]int) int {
	pence := 0
	for _, add := range plan {
		pence += penceOf(f, add)
	}
	return pence
}

func nightsOf(plan [][]int) int {
	nights := 0
	for _, add := range plan {
		if slices.Max(append(list(0), add...)) > 0 {
			nights++
		}
	}
	return nights
}

// checkNotGreater checks that Cheap, Once and Known are not greater of a foundry than they were of another one.
func checkNotGreater(t *testing.T, what string, now, was api.WeekFoundry) {
	t.Helper()
	for name, call := range map[string]func(f api.WeekFoundry) (int, api.Errno){"Cheap": weeks.Cheap, "Once": weeks.Once, "Known": weeks.Known} {
		n, e := call(now)
		m, g := call(was)
		if !checks.NotGreater(n, e, m, g) {
			t.Fatalf("%s: %v: %s = %d, %d; of %v it was %d, %d", what, now, name, n, e, was, m, g)
		}
	}
}

func has(s api.Span, n int) bool { return s.Low <= n && n <= s.High }

// P13.12
func TestEachTruth(t *testing.T) {
	for _, f := range someFoundries(1500) {
		inAll := truths(f)
		for _, plan := range somePlans(f, 12) {
			safe := safeOf(t, f, plan)
			fails := checks.Must[[]int](t, f)(weeks.Fails(f, plan))
			for _, x := range inAll {
				all := true
				for night := range plan {
					m := in(f, x, night, upTo(f, plan, night))
					pounds, tin, antimony, e := weeks.Pot(f, plan, night)
					if e != api.OK || !has(pounds, m.pounds) || !has(tin, m.tin) || !has(antimony, m.antimony) {
						t.Fatalf("%v: Pot(%v, %d) = %v, %v, %v, %d; in %v it is %v", f, plan, night, pounds, tin, antimony, e, x, m)
					}
					good := kept(f, m)
					if !good && !slices.Contains(fails, night) {
						t.Fatalf("%v: Fails(%v) = %v; in %v the night is %d", f, plan, fails, x, night)
					}
					all = all && good
				}
				if safe == api.Surely && !all || safe == api.Never && all {
					t.Fatalf("%v: Safe(%v) = %d; in %v %v", f, plan, safe, x, all)
				}
			}
		}
	}
}

// P13.13
func TestThePlan(t *testing.T) {
	added, idle := 0, 0
	for _, f := range someFoundries(1500) {
		plan, e := weeks.Plan(f)
		cheap, g := weeks.Cheap(f)
		once, h := weeks.Once(f)
		if g != e || h != e || cheap != costOf(f, plan) {
			t.Fatalf("%v: Plan = %v, %d; Cheap = %d, %d; Once = %d, %d", f, plan, e, cheap, g, once, h)
		}
		if e == api.OK {
			if k := safeOf(t, f, plan); k != api.Surely {
				t.Fatalf("%v: Safe(%v) = %d", f, plan, k)
			}
			if none, all := samePlan(plan, nothing(f)), lastOf(t, f) == len(f.Nights); none != all {
				t.Fatalf("%v: Plan = %v; Last = %d", f, plan, lastOf(t, f))
			} else if none {
				idle++
			} else {
				added++
			}
		}
		for _, other := range plans(f) {
			if safeOf(t, f, other) == api.Surely && (e != api.OK || costOf(f, other) < cheap || nightsOf(other) < once) {
				t.Fatalf("%v: %v is safe; Cheap = %d, %d; Once = %d, %d", f, other, cheap, g, once, h)
			}
		}
	}
	if min(added, idle) < 100 {
		t.Errorf("by %d plans something is added, and by %d nothing", added, idle)
	}
}

// narrower returns a foundry with a lesser span of the pot, or of a night's dross.
func narrower(r *rand.Rand, f api.WeekFoundry) api.WeekFoundry {
	return changed(f, func(f *api.WeekFoundry) {
		spans := []*api.Span{&f.Shop.Pot.Tin, &f.Shop.Pot.Antimony}
		for night := range f.Nights {
			spans = append(spans, &f.Nights[night].Dross)
		}
		s := spans[r.Intn(len(spans))]
		s.Low += r.Intn(s.High - s.Low + 1)
		s.High -= r.Intn(s.High - s.Low + 1)
	})
}

// P13.14
func TestClearer(t *testing.T) {
	r := rand.New(rand.NewSource(14))
	for _, f := range someFoundries(2000) {
		clearer := narrower(r, f)
		checkNotGreater(t, "clearer", clearer, f)
		if now, was := lastOf(t, clearer), lastOf(t, f); now < was {
			t.Fatalf("%v: Last = %d; of %v it was %d", clearer, now, f, was)
		}
		for _, plan := range somePlans(f, 12) {
			if now, was := safeOf(t, clearer, plan), safeOf(t, f, plan); was != api.Perhaps && now != was {
				t.Fatalf("%v: Safe(%v) = %d; of %v it was %d", clearer, plan, now, f, was)
			}
		}
	}
}

// P13.15
func TestAnalyses(t *testing.T) {
	for _, f := range someFoundries(2000) {
		known, e := weeks.Known(f)
		cheap, g := weeks.Cheap(f)
		if !checks.NotGreater(known, e, cheap, g) {
			t.Fatalf("%v: Known = %d, %d; Cheap = %d, %d", f, known, e, cheap, g)
		}
		untested := changed(f, func(f *api.WeekFoundry) {
			for night := range f.Nights {
				f.Nights[night].Test = 0
			}
		})
		if n, h := weeks.Known(untested); n != cheap || h != g {
			t.Fatalf("%v: Known without analyses = %d, %d; Cheap = %d, %d", f, n, h, cheap, g)
		}
		ask, asked := weeks.Ask(f)
		best, h := 0, api.ErrNone
		if asked == api.OK {
			best, h = weeks.Known(tested(f, ask))
		}
		if asked == api.OK && (f.Nights[ask].Test == 1 || h != api.OK) {
			t.Fatalf("%v: Ask = %d, with which Known is %d, %d", f, ask, best, h)
		}
		for night, n := range f.Nights {
			if n.Test == 1 {
				continue
			}
			more, j := weeks.Known(tested(f, night))
			if !checks.NotGreater(more, j, known, e) || !checks.NotGreater(best, h, more, j) {
				t.Fatalf("%v: Known = %d, %d; tested on %d %d, %d; on %d %d, %d", f, known, e, night, more, j, ask, best, h)
			}
			if asked == api.OK && night < ask && j == api.OK && more == best {
				t.Fatalf("%v: Ask = %d; on %d Known is %d, too", f, ask, night, more)
			}
		}
	}
}

// P13.16
func TestANightLess(t *testing.T) {
	for _, f := range someFoundries(2000) {
		if len(f.Nights) == 0 {
			continue
		}
		less := changed(f, func(f *api.WeekFoundry) { f.Nights = f.Nights[:len(f.Nights)-1] })
		checkNotGreater(t, "a night less", less, f)
		if now, was := lastOf(t, less), lastOf(t, f); now != min(was, len(less.Nights)) {
			t.Fatalf("%v: Last = %d; of %v it was %d", less, now, f, was)
		}
	}
}

// P13.17
func TestOneNight(t *testing.T) {
	safe, clear := 0, 0
	for _, f := range someFoundries(3000) {
		f.Nights = f.Nights[:min(1, len(f.Nights))]
		if len(f.Nights) == 0 {
			continue
		}
		cheap, e := weeks.Cheap(f)
		if n, g := metal.Cheap(f.Shop); cheap != n || e != g {
			t.Fatalf("%v: Cheap = %d, %d; of the shop %d, %d", f, cheap, e, n, g)
		}
		known, g := weeks.Known(tested(f, 0))
		if s, h := metal.Known(f.Shop); known != s.High || g != h {
			t.Fatalf("%v: Known = %d, %d; of the shop %v, %d", f, known, g, s, h)
		}
		if e == api.OK {
			safe++
		}
		if g == api.OK && known > 0 {
			clear++
		}
	}
	if min(safe, clear) < 100 {
		t.Errorf("only %d foundries were safe, and %d cost something with an analysis", safe, clear)
	}
}

// P13.18
func TestMorePigs(t *testing.T) {
	for _, f := range someFoundries(1500) {
		checkNotGreater(t, "more room", changed(f, func(f *api.WeekFoundry) { f.Shop.Room++ }), f)
		for kind := range f.Shop.Pigs {
			checkNotGreater(t, "one more pig", changed(f, func(f *api.WeekFoundry) { f.Shop.Pigs[kind].Many++ }), f)
		}
	}
}

// P13.19
func TestNoDross(t *testing.T) {
	for _, f := range someFoundries(2000) {
		still := changed(f, func(f *api.WeekFoundry) {
			for night := range f.Nights {
				f.Nights[night].Dross = span(0, 0)
			}
		})
		if len(f.Nights) == 0 {
			continue
		}
		cheap, e := weeks.Cheap(still)
		if n, g := metal.Cheap(f.Shop); cheap != n || e != g {
			t.Fatalf("%v: Cheap = %d, %d; of the shop %d, %d", still, cheap, e, n, g)
		}
		for _, add := range additions(f, make([]int, len(f.Shop.Pigs))) {
			plan := nothing(f)
			plan[0] = add
			safe, e := weeks.Safe(still, plan)
			first, g := metal.Safe(f.Shop, add)
			if e != g || safe != first {
				t.Fatalf("%v: Safe(%v) = %d, %d; on the first night %d, %d", still, plan, safe, e, first, g)
			}
		}
	}
}

// knowing returns a foundry that knows a truth, with its first nights alone.
func knowing(f api.WeekFoundry, x truth, nights int) api.WeekFoundry {
	return changed(f, func(f *api.WeekFoundry) {
		f.Shop.Pot.Tin, f.Shop.Pot.Antimony = span(x.tin, x.tin), span(x.antimony, x.antimony)
		// The truth does not say what is lost on the last night, and it makes no difference.
		for night := range f.Nights {
			lost := f.Nights[night].Dross.Low
			if night+1 < len(f.Nights) {
				lost = x.lost[night+1] - x.lost[night]
			}
			f.Nights[night].Dross = span(lost, lost)
		}
		f.Nights = f.Nights[:nights]
	})
}

// mended returns what metal.Mend adds night by night in a truth, as long as it can be.
func mended(f api.WeekFoundry, x truth) [][]int {
	var plan [][]int
	added := make([]int, len(f.Shop.Pigs))
	for night := range f.Nights {
		m := in(f, x, night, added)
		s := changed(f, func(f *api.WeekFoundry) {
			f.Shop.Pot = pot(m.pounds, m.tin, m.tin, m.antimony, m.antimony)
			for kind, n := range added {
				f.Shop.Pigs[kind].Many -= n
			}
		}).Shop
		add, e := metal.Mend(s)
		if e != api.OK {
			return plan
		}
		plan, added = append(plan, add), plus(added, add)
	}
	return plan
}

// P0.9
func TestNightByNight(t *testing.T) {
	whole, stopped, dearer := 0, 0, 0
	for _, f := range someFoundries(1500) {
		known, e := weeks.Known(f)
		all := truths(f)
		for i := 0; i < len(all); i += 1 + len(all)/10 {
			plan := mended(f, all[i])
			clear := knowing(f, all[i], len(plan))
			if k := safeOf(t, clear, plan); k != api.Surely {
				t.Fatalf("%v: by Mend %v is added, and Safe is %d", clear, plan, k)
			}
			cheap := checks.Must[int](t, clear)(weeks.Cheap(clear))
			if pence := costOf(f, plan); pence < cheap {
				t.Fatalf("%v: by Mend %v is added; Cheap = %d", clear, plan, cheap)
			} else if pence > cheap {
				dearer++
			}
			if len(plan) == len(f.Nights) {
				whole++
			} else {
				stopped++
			}
			clear = knowing(f, all[i], len(f.Nights))
			if n, g := weeks.Cheap(clear); !checks.NotGreater(n, g, known, e) {
				t.Fatalf("%v: Known = %d, %d; for %v Cheap is %d, %d", f, known, e, clear, n, g)
			}
		}
	}
	if min(whole, stopped) < 100 || dearer < 20 {
		t.Errorf("%d times it was mended on all nights, %d times not; %d times for more pence than by Cheap", whole, stopped, dearer)
	}
}

// P1: TestLarge asks all calls about foundries that are large, whose metal can be anything, or must be within narrow limits.
func TestLarge(t *testing.T) {
	wide := changed(largest(), func(f *api.WeekFoundry) { f.Shop.TinPart, f.Shop.AntimonyPart = span(0, 1000), span(0, 1000) })
	near := changed(largest(), func(f *api.WeekFoundry) {
		f.Shop.Pot = pot(400, 36, 60, 0, 20)
		f.Shop.TinPart, f.Shop.AntimonyPart = span(80, 140), span(0, 50)
		f.Shop.Pigs[1], f.Shop.Pigs[2], f.Shop.Pigs[3] = pig(40, 20, 0, 98, 5), pig(37, 0, 20, 97, 5), pig(39, 10, 10, 96, 5)
	})
	far := changed(near, func(f *api.WeekFoundry) { f.Shop.Pot = pot(400, 36, 200, 0, 200) })
	for i, x := range []struct {
		f     api.WeekFoundry
		known int // -1: there is no safe way
	}{{wide, 0}, {near, 197}, {far, -1}, {largest(), 1063}} {
		for tests := range 4 {
			f := changed(x.f, func(f *api.WeekFoundry) {
				for night := range tests {
					f.Nights[night].Test = 0
				}
			})
			known, e := weeks.Known(f)
			cheap, g := weeks.Cheap(f)
			if tests == 0 && !is(known, e, x.known) || !checks.NotGreater(known, e, cheap, g) {
				t.Errorf("%d, %d: Known = %d, %d; Cheap = %d, %d", i, tests, known, e, cheap, g)
			}
			if ask, h := weeks.Ask(f); tests > 0 && h == api.OK && ask >= tests || tests == 0 && h != api.ErrNone {
				t.Errorf("%d, %d: Ask = %d, %d", i, tests, ask, h)
			}
		}
	}
}
