package flongs_test

import (
	"math/rand"
	"slices"
	"testing"

	"flong/api"
	"flong/checks"
	"flong/flongs"
)

// agreeing returns shops of all sorts in which some world agrees.
func agreeing(many, moulds int) []api.FlongShop {
	return slices.DeleteFunc(someShops(many, moulds), func(s api.FlongShop) bool { return len(wantWorlds(s)) == 0 })
}

// someShares has the shares of Divide and Bold, and others near to what is left.
func someShares(t *testing.T, r *rand.Rand, s api.FlongShop) [][]int {
	t.Helper()
	all := [][]int{make([]int, len(s.Moulds))}
	for range 12 {
		shares := make([]int, len(s.Moulds))
		for i, m := range s.Moulds {
			if m.Broke == 0 {
				lefts := checks.Must[api.Span](t, s)(flongs.Left(s, i))
				shares[i] = min(max(lefts.Low+r.Intn(lefts.High-lefts.Low+3)-1, 0), api.MaxFlongCasts)
			}
		}
		all = append(all, shares)
	}
	if l, e := flongs.Divide(s); e == api.OK {
		all = append(all, l)
	}
	if l, e := flongs.Bold(s); e == api.OK {
		all = append(all, l)
	}
	return all
}

// P2.14
func TestEachWorld(t *testing.T) {
	r := rand.New(rand.NewSource(14))
	for _, s := range agreeing(1500, 5) {
		worlds := checks.Must[[]int](t, s)(flongs.Worlds(s))
		for i := range s.Moulds {
			lefts := checks.Must[api.Span](t, s)(flongs.Left(s, i))
			for _, world := range worlds {
				if n := leftIn(s, world, i); n < lefts.Low || n > lefts.High {
					t.Fatalf("%v: Left(%d) = %v, in world %d %d", s, i, lefts, world, n)
				}
			}
		}
		for _, shares := range someShares(t, r, s) {
			holds := checks.Must[int](t, s)(flongs.Holds(s, shares))
			fails := checks.Must[[]int](t, s)(flongs.Fails(s, shares))
			for _, world := range worlds {
				if hold := holdIn(s, shares, world); holds == api.Surely && !hold || holds == api.Never && hold {
					t.Fatalf("%v, %v: Holds = %d, in world %d %v", s, shares, holds, world, hold)
				}
				for i, n := range shares {
					if n > leftIn(s, world, i) && !slices.Contains(fails, i) {
						t.Fatalf("%v, %v: Fails = %v, in world %d mould %d fails", s, shares, fails, world, i)
					}
				}
			}
		}
	}
}

// P2.15
func TestOneCastMore(t *testing.T) {
	seen := 0
	for _, s := range agreeing(1500, 5) {
		was := checks.Must[[]int](t, s)(flongs.Worlds(s))
		for i, m := range s.Moulds {
			if m.Broke == 1 || m.Used == api.MaxFlongCasts {
				continue
			}
			more := changed(s, func(s *api.FlongShop) { s.Moulds[i].Used++ })
			now := checks.Must[[]int](t, more)(flongs.Worlds(more))
			if slices.ContainsFunc(now, func(world int) bool { return !slices.Contains(was, world) }) {
				t.Fatalf("%v: Worlds = %v; of %v they were %v", more, now, s, was)
			}
			if len(now) > 0 {
				seen++
				checkOneCast(t, s, more, m.Page)
			}
		}
	}
	if seen < 500 {
		t.Errorf("only %d casts left a world", seen)
	}
}

func checkOneCast(t *testing.T, s, more api.FlongShop, page int) {
	t.Helper()
	for i := range s.Moulds {
		was := checks.Must[api.Span](t, s)(flongs.Left(s, i))
		if now := checks.Must[api.Span](t, more)(flongs.Left(more, i)); now.Low < was.Low-1 {
			t.Fatalf("%v: Left(%d) = %v; of %v it was %v", more, i, now, s, was)
		}
	}
	if s.Wants[page] > 0 {
		less := changed(more, func(s *api.FlongShop) { s.Wants[page]-- })
		checkNewNotGreater(t, less, s)
	}
}

func checkNewNotGreater(t *testing.T, now, was api.FlongShop) {
	t.Helper()
	if n, before := checks.Must[int](t, now)(flongs.New(now)), checks.Must[int](t, was)(flongs.New(was)); n > before {
		t.Fatalf("%v: New = %d; of %v it was %d", now, n, was, before)
	}
}

// P2.16
func TestFewerWorlds(t *testing.T) {
	r := rand.New(rand.NewSource(16))
	for _, s := range agreeing(1500, 5) {
		fewer := changed(s, func(s *api.FlongShop) {
			s.Worlds = slices.DeleteFunc(s.Worlds, func([]int) bool { return r.Intn(3) == 0 })
		})
		if len(checks.Must[[]int](t, fewer)(flongs.Worlds(fewer))) == 0 {
			continue
		}
		for i := range s.Moulds {
			was, now := checks.Must[api.Span](t, s)(flongs.Left(s, i)), checks.Must[api.Span](t, fewer)(flongs.Left(fewer, i))
			if now.Low < was.Low || now.High > was.High {
				t.Fatalf("%v: Left(%d) = %v; of %v it was %v", fewer, i, now, s, was)
			}
		}
		for page := range s.Wants {
			if now, was := checks.Must[int](t, fewer)(flongs.Sure(fewer, page)), checks.Must[int](t, s)(flongs.Sure(s, page)); now < was {
				t.Fatalf("%v: Sure(%d) = %d; of %v it was %d", fewer, page, now, s, was)
			}
		}
		checkNewNotGreater(t, fewer, s)
	}
}

// P2.17
func TestTheShares(t *testing.T) {
	for _, s := range agreeing(500, 3) {
		divided, e := flongs.Divide(s)
		if fresh := checks.Must[int](t, s)(flongs.New(s)); (fresh == 0) != (e == api.OK) {
			t.Fatalf("%v: Divide = %v, %d; New = %d", s, divided, e, fresh)
		}
		if e == api.OK && (!slices.Equal(plates(s, divided), s.Wants) || checks.Must[int](t, s)(flongs.Holds(s, divided)) != api.Surely) {
			t.Fatalf("%v: Divide = %v", s, divided)
		}
		boldly, f := flongs.Bold(s)
		if f != api.OK {
			if e == api.OK {
				t.Fatalf("%v: Divide = %v; Bold = %d", s, divided, f)
			}
			continue
		}
		if holds := checks.Must[int](t, s)(flongs.Holds(s, boldly)); (holds == api.Surely) != (e == api.OK) || !slices.Equal(plates(s, boldly), s.Wants) {
			t.Fatalf("%v: Bold = %v, it holds %d; Divide = %v, %d", s, boldly, holds, divided, e)
		}
		chance := checks.Must[api.Ratio](t, s)(flongs.Chance(s, boldly))
		for _, shares := range allShares(s) {
			if !slices.Equal(plates(s, shares), s.Wants) {
				continue
			}
			if other := checks.Must[api.Ratio](t, s)(flongs.Chance(s, shares)); other.Num*chance.Den > chance.Num*other.Den {
				t.Fatalf("%v: Bold = %v with %v; %v with %v", s, boldly, chance, shares, other)
			}
		}
	}
}

// P2.18
func TestMore(t *testing.T) {
	r := rand.New(rand.NewSource(18))
	for _, s := range agreeing(1500, 4) {
		was := checks.Must[int](t, s)(flongs.New(s))
		for page, want := range s.Wants {
			if want == api.MaxFlongWant {
				continue
			}
			more := changed(s, func(s *api.FlongShop) { s.Wants[page]++ })
			if now := checks.Must[int](t, more)(flongs.New(more)); now != was && now != was+1 {
				t.Fatalf("%v: New = %d; of %v it was %d", more, now, s, was)
			}
		}
		if len(s.Wants) == 0 {
			continue
		}
		page := r.Intn(len(s.Wants))
		more := changed(s, func(s *api.FlongShop) {
			s.Moulds = append(s.Moulds, mould(page, 0, 0))
			for world := range s.Worlds {
				s.Worlds[world] = append(s.Worlds[world], r.Intn(13))
			}
		})
		low := checks.Must[api.Span](t, more)(flongs.Left(more, len(s.Moulds))).Low
		if now, was := checks.Must[int](t, more)(flongs.Sure(more, page)), checks.Must[int](t, s)(flongs.Sure(s, page)); now != was+low {
			t.Fatalf("%v: Sure(%d) = %d; of %v it was %d", more, page, now, s, was)
		}
	}
}

// P2.19
func TestTheChance(t *testing.T) {
	r := rand.New(rand.NewSource(19))
	for _, s := range agreeing(1500, 5) {
		for _, shares := range someShares(t, r, s) {
			chance := checks.Must[api.Ratio](t, s)(flongs.Chance(s, shares))
			holds := checks.Must[int](t, s)(flongs.Holds(s, shares))
			if (chance == api.Ratio{Num: 1, Den: 1}) != (holds == api.Surely) || (chance == api.Ratio{Num: 0, Den: 1}) != (holds == api.Never) {
				t.Fatalf("%v, %v: Chance = %v; Holds = %d", s, shares, chance, holds)
			}
			lesser := slices.Clone(shares)
			for i, n := range lesser {
				lesser[i] -= r.Intn(n + 1)
			}
			if other := checks.Must[api.Ratio](t, s)(flongs.Chance(s, lesser)); other.Num*chance.Den < chance.Num*other.Den {
				t.Fatalf("%v, %v: Chance = %v; of %v %v", s, shares, chance, lesser, other)
			}
		}
	}
}

// P2.20
func TestBehindTheTest(t *testing.T) {
	tests := 0
	for _, s := range agreeing(2000, 5) {
		best, e := flongs.Test(s)
		for i := range s.Moulds {
			fails, casts := tried(s, i)
			if fails > 0 && casts > 0 && e != api.OK {
				t.Fatalf("%v: Test = %d, and mould %d can be tested", s, e, i)
			}
		}
		if e != api.OK {
			continue
		}
		tests++
		worlds := max(tried(s, best))
		fails := changed(s, func(s *api.FlongShop) { s.Moulds[best].Broke = 1 })
		casts := changed(s, func(s *api.FlongShop) { s.Moulds[best].Used++ })
		for _, seen := range []api.FlongShop{fails, casts} {
			if n := len(checks.Must[[]int](t, seen)(flongs.Worlds(seen))); n > worlds || n == 0 {
				t.Fatalf("%v: Test = %d; behind it, in %v, %d worlds agree, of at most %d", s, best, seen, n, worlds)
			}
		}
		for i := range s.Moulds {
			if other := max(tried(s, i)); other < worlds || other == worlds && i < best {
				t.Fatalf("%v: Test = %d leaves %d worlds, %d leaves %d", s, best, worlds, i, other)
			}
		}
	}
	if tests < 100 {
		t.Errorf("only %d shops had a test", tests)
	}
}

// P2.21
func TestAnyOrder(t *testing.T) {
	r := rand.New(rand.NewSource(21))
	for _, s := range someShops(1000, 5) {
		turned := checks.CopyShop(s)
		places := r.Perm(len(s.Worlds))
		for world, place := range places {
			turned.Worlds[place] = s.Worlds[world]
		}
		var moved []int
		for _, world := range checks.Must[[]int](t, s)(flongs.Worlds(s)) {
			moved = append(moved, places[world])
		}
		slices.Sort(moved)
		if l := checks.Must[[]int](t, turned)(flongs.Worlds(turned)); !slices.Equal(l, moved) {
			t.Fatalf("%v: Worlds = %v, turned %v", s, l, moved)
		}
		checkSame(t, r, s, turned)
	}
}

// checkSame checks that all calls but Worlds return the same of two shops.
func checkSame(t *testing.T, r *rand.Rand, s, turned api.FlongShop) {
	t.Helper()
	alike := func(name string, one, other int, e, f api.Errno) {
		if one != other || e != f {
			t.Fatalf("%v: %s = %d, %d; turned %d, %d", s, name, one, e, other, f)
		}
	}
	alikeLists := func(name string, one, other []int, e, f api.Errno) {
		if !slices.Equal(one, other) || e != f {
			t.Fatalf("%v: %s = %v, %d; turned %v, %d", s, name, one, e, other, f)
		}
	}
	n, e := flongs.New(s)
	m, f := flongs.New(turned)
	alike("New", n, m, e, f)
	n, e = flongs.Test(s)
	m, f = flongs.Test(turned)
	alike("Test", n, m, e, f)
	l, e := flongs.Divide(s)
	k, f := flongs.Divide(turned)
	alikeLists("Divide", l, k, e, f)
	l, e = flongs.Bold(s)
	k, f = flongs.Bold(turned)
	alikeLists("Bold", l, k, e, f)
	if len(wantWorlds(s)) == 0 {
		return
	}
	for i := range s.Moulds {
		if one, other := checks.Must[api.Span](t, s)(flongs.Left(s, i)), checks.Must[api.Span](t, turned)(flongs.Left(turned, i)); one != other {
			t.Fatalf("%v: Left(%d) = %v; turned %v", s, i, one, other)
		}
	}
	for page := range s.Wants {
		n, e = flongs.Sure(s, page)
		m, f = flongs.Sure(turned, page)
		alike("Sure", n, m, e, f)
	}
	for _, shares := range someShares(t, r, s) {
		n, e = flongs.Holds(s, shares)
		m, f = flongs.Holds(turned, shares)
		alike("Holds", n, m, e, f)
		l, e = flongs.Fails(s, shares)
		k, f = flongs.Fails(turned, shares)
		alikeLists("Fails", l, k, e, f)
		if one, other := checks.Must[api.Ratio](t, s)(flongs.Chance(s, shares)), checks.Must[api.Ratio](t, turned)(flongs.Chance(turned, shares)); one != other {
			t.Fatalf("%v, %v: Chance = %v; turned %v", s, shares, one, other)
		}
	}
}
