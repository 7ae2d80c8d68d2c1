package metal_test

import (
	"math/rand"
	"slices"
	"testing"

	"flong/api"
	"flong/checks"
	"flong/metal"
)

// someAdditions returns the first additions of a shop, and some of the others.
func someAdditions(s api.MetalShop) [][]int {
	all := additions(s)
	some := slices.Clone(all[:min(8, len(all))])
	for i := 8; i < len(all); i += 29 {
		some = append(some, all[i])
	}
	return some
}

func checkNotGreater(t *testing.T, what string, now, was api.MetalShop) {
	t.Helper()
	cheap, e := metal.Cheap(now)
	before, f := metal.Cheap(was)
	if !checks.NotGreater(cheap, e, before, f) {
		t.Errorf("%s: %v: Cheap = %d, %d; of %v = %d, %d", what, now, cheap, e, was, before, f)
	}
	tin, e := metal.Tin(now)
	before, f = metal.Tin(was)
	if !checks.NotGreater(tin, e, before, f) {
		t.Errorf("%s: %v: Tin = %d, %d; of %v = %d, %d", what, now, tin, e, was, before, f)
	}
}

// P1.13
func TestEachTruth(t *testing.T) {
	for _, s := range someShops(1000) {
		for _, add := range someAdditions(s) {
			safe := checks.Must[int](t, s)(metal.Safe(s, add))
			fails := checks.Must[[]int](t, s)(metal.Fails(s, add))
			for _, x := range truths(s.Pot) {
				if all := keptAll(s, add, 0, x); safe == api.Surely && !all || safe == api.Never && all {
					t.Fatalf("%v, %v: Safe = %d, in %v %v", s, add, safe, x, all)
				}
				for limit := 1; limit <= 4; limit++ {
					if !slices.Contains(fails, limit) && !kept(s, add, 0, x)[limit] {
						t.Fatalf("%v, %v: Fails = %v, in %v it fails %d", s, add, fails, x, limit)
					}
				}
			}
		}
	}
}

// P1.14
func TestTheCheapest(t *testing.T) {
	for _, s := range someShops(1500) {
		mend, e := metal.Mend(s)
		if short := checks.Must[[]int](t, s)(metal.Short(s)); len(short) > 0 && e != api.ErrNone {
			t.Fatalf("%v: Short = %v, Mend = %v, %d", s, short, mend, e)
		}
		if e == api.ErrNone {
			mend = nil
		} else if safe, _ := metal.Safe(s, mend); safe != api.Surely {
			t.Fatalf("%v: Safe of Mend %v = %d", s, mend, safe)
		}
		_, _, _, pence := sum(s, mend)
		cheap, f := metal.Cheap(s)
		least, g := metal.Tin(s)
		if cheap != pence || f != e || g != e {
			t.Fatalf("%v: Mend = %v, %d; Cheap = %d, %d; Tin = %d, %d", s, mend, e, cheap, f, least, g)
		}
		for _, add := range additions(s) {
			_, tin, _, pence := sum(s, add)
			if safe, _ := metal.Safe(s, add); safe == api.Surely && (e != api.OK || pence < cheap || tin < least) {
				t.Fatalf("%v: %v is safe; Cheap = %d, %d; Tin = %d, %d", s, add, cheap, f, least, g)
			}
		}
	}
}

// narrower returns a shop with a lesser span of tin or antimony.
func narrower(r *rand.Rand, s api.MetalShop) api.MetalShop {
	return changed(s, func(s *api.MetalShop) {
		p := []*api.Span{&s.Pot.Tin, &s.Pot.Antimony}[r.Intn(2)]
		p.Low += r.Intn(p.High - p.Low + 1)
		p.High -= r.Intn(p.High - p.Low + 1)
	})
}

// P1.15
func TestClearer(t *testing.T) {
	r := rand.New(rand.NewSource(15))
	for _, s := range someShops(1500) {
		clearer := narrower(r, s)
		checkNotGreater(t, "clearer", clearer, s)
		for _, add := range someAdditions(s) {
			was := checks.Must[int](t, s)(metal.Safe(s, add))
			if now := checks.Must[int](t, clearer)(metal.Safe(clearer, add)); was != api.Perhaps && now != was {
				t.Fatalf("%v, %v: Safe = %d; of %v it was %d", clearer, add, now, s, was)
			}
		}
	}
}

// P1.16
func TestWiderLimits(t *testing.T) {
	r := rand.New(rand.NewSource(16))
	for _, s := range someShops(1500) {
		wider := changed(s, func(s *api.MetalShop) {
			p := []*api.Span{&s.TinPart, &s.AntimonyPart}[r.Intn(2)]
			p.Low -= r.Intn(min(p.Low, 30) + 1)
			p.High += r.Intn(min(1000-p.High, 30) + 1)
		})
		checkNotGreater(t, "wider", wider, s)
		for _, add := range someAdditions(s) {
			was := checks.Must[[]int](t, s)(metal.Fails(s, add))
			for _, limit := range checks.Must[[]int](t, wider)(metal.Fails(wider, add)) {
				if !slices.Contains(was, limit) {
					t.Fatalf("%v, %v: fails %d; of %v Fails was %v", wider, add, limit, s, was)
				}
			}
		}
	}
}

// P1.17
func TestMorePigs(t *testing.T) {
	for _, s := range someShops(1000) {
		if s.Room < api.MaxMetalRoom {
			checkNotGreater(t, "more room", changed(s, func(s *api.MetalShop) { s.Room++ }), s)
		}
		for kind, p := range s.Pigs {
			if p.Many < api.MaxMetalMany {
				checkNotGreater(t, "one more pig", changed(s, func(s *api.MetalShop) { s.Pigs[kind].Many++ }), s)
			}
			if p.Pence == api.MaxMetalPence {
				continue
			}
			dearer := changed(s, func(s *api.MetalShop) { s.Pigs[kind].Pence++ })
			was, e := metal.Cheap(s)
			if now, f := metal.Cheap(dearer); f != e || now < was || now > was+p.Many {
				t.Errorf("%v: Cheap = %d, %d; of %v it was %d, %d", dearer, now, f, s, was, e)
			}
		}
	}
}

// withLead returns a shop that has the metal of an addition and some lead in its pot, and no pigs.
func withLead(p api.MetalPot, s api.MetalShop, lead int) api.MetalShop {
	return changed(s, func(s *api.MetalShop) {
		s.Pot, s.Pigs = p, nil
		s.Pot.Pounds += lead
	})
}

// P1.18
func TestLeadKeepsSafe(t *testing.T) {
	for _, s := range someShops(1000) {
		for _, add := range someAdditions(s)[:1] {
			p := checks.Must[api.MetalPot](t, s)(metal.After(s, add))
			leads, e := metal.Lead(s, add)
			for lead := 0; p.Pounds+lead <= min(s.Room, api.MaxMetalPounds); lead++ {
				safe := checks.Must[int](t, s)(metal.Safe(withLead(p, s, lead), nil))
				if can := e == api.OK && leads.Low <= lead && lead <= leads.High; can != (safe == api.Surely) {
					t.Fatalf("%v, %v: Lead = %v, %d; with %d Safe = %d", s, add, leads, e, lead, safe)
				}
			}
			if p.Pounds+leads.High > s.Room {
				t.Fatalf("%v, %v: no room for Lead = %v", s, add, leads)
			}
		}
	}
}

// P1.19
func TestOneAfterTheOther(t *testing.T) {
	r := rand.New(rand.NewSource(19))
	both := 0
	for _, s := range someShops(2000) {
		other := checks.SomePot(r, 60)
		for _, add := range someAdditions(s) {
			added := changed(s, func(x *api.MetalShop) { x.Pot = checks.Must[api.MetalPot](t, s)(metal.After(s, add)) })
			mixed := clone(s)
			p, e := metal.Mix(s, other)
			if e != api.OK {
				continue
			}
			mixed.Pot = p
			if added.Pot.Pounds > api.MaxMetalPounds || mixed.Pot.Pounds > api.MaxMetalPounds {
				continue
			}
			one, e := metal.After(mixed, add)
			two, f := metal.Mix(added, other)
			if one != two || e != f || e != api.OK && e != api.ErrArg {
				t.Fatalf("%v, %v, %v: mixed first %v, %d, added first %v, %d", s, other, add, one, e, two, f)
			}
			if e == api.OK {
				both++
			}
		}
	}
	if both < 100 {
		t.Errorf("only %d shops had room for both", both)
	}
}

// P1.20
func TestTinAndAntimony(t *testing.T) {
	for _, s := range someShops(1500) {
		turned := changed(s, func(s *api.MetalShop) {
			s.Pot.Tin, s.Pot.Antimony = s.Pot.Antimony, s.Pot.Tin
			s.TinPart, s.AntimonyPart = s.AntimonyPart, s.TinPart
			for i, p := range s.Pigs {
				s.Pigs[i].Tin, s.Pigs[i].Antimony = p.Antimony, p.Tin
			}
		})
		for _, add := range someAdditions(s) {
			if one, two := checks.Must[int](t, s)(metal.Safe(s, add)), checks.Must[int](t, turned)(metal.Safe(turned, add)); one != two {
				t.Fatalf("%v, %v: Safe = %d, turned %d", s, add, one, two)
			}
		}
		cheap, e := metal.Cheap(s)
		turnedCheap, f := metal.Cheap(turned)
		known, g := metal.Known(s)
		turnedKnown, h := metal.Known(turned)
		worth, j := metal.Worth(s)
		turnedWorth, k := metal.Worth(turned)
		if cheap != turnedCheap || e != f || known != turnedKnown || g != h || worth != turnedWorth || j != k {
			t.Fatalf("%v: Cheap = %d, %d; turned %d, %d; Known = %v, %d; turned %v, %d; Worth = %d, %d; turned %d, %d", s, cheap, e, turnedCheap, f, known, g, turnedKnown, h, worth, j, turnedWorth, k)
		}
	}
}

// P1.21
func TestAnAnalysis(t *testing.T) {
	for _, s := range someShops(1500) {
		known, e := metal.Known(s)
		cheap, f := metal.Cheap(s)
		worth, g := metal.Worth(s)
		if either := max(e, f); g != either || worth < 0 || g == api.OK && worth != cheap-known.High {
			t.Fatalf("%v: Known = %v, %d; Cheap = %d, %d; Worth = %d, %d", s, known, e, cheap, f, worth, g)
		}
		var all []int
		for _, x := range truths(s.Pot) {
			n, h := metal.Cheap(in(s, x))
			if h == api.OK {
				all = append(all, n)
			}
			if f == api.OK && (h != api.OK || n > cheap) || e == api.OK && h != api.OK {
				t.Fatalf("%v: Cheap = %d, %d; Known = %v, %d; in %v Cheap is %d, %d", s, cheap, f, known, e, x, n, h)
			}
		}
		if some := len(all) == len(truths(s.Pot)); some != (e == api.OK) || some && known != span(slices.Min(all), slices.Max(all)) {
			t.Fatalf("%v: Known = %v, %d; in its truths Cheap is %v", s, known, e, all)
		}
	}
}
