package tallies_test

import (
	"math/rand"
	"slices"
	"testing"

	"flong/api"
	"flong/checks"
	"flong/machines"
	"flong/tallies"
	"flong/trains"
)

func isGood(t *testing.T, b api.TallyBook, l []int) bool {
	t.Helper()
	return checks.Must[bool](t, b)(tallies.Good(b, l))
}

func falseOf(t *testing.T, b api.TallyBook) int {
	t.Helper()
	return checks.Must[int](t, b)(tallies.False(b))
}

func blameOf(t *testing.T, b api.TallyBook) []int {
	t.Helper()
	return checks.Must[[]int](t, b)(tallies.Blame(b))
}

func liesOf(t *testing.T, b api.TallyBook, tally int) int {
	t.Helper()
	return checks.Must[int](t, b)(tallies.Lies(b, tally))
}

func honestOf(t *testing.T, b api.TallyBook, boy int) int {
	t.Helper()
	return checks.Must[int](t, b)(tallies.Honest(b, boy))
}

func leftOf(t *testing.T, b api.TallyBook) []api.MachinePlate {
	t.Helper()
	return checks.Must[[]api.MachinePlate](t, b)(tallies.Left(b))
}

func platesOf(t *testing.T, b api.TallyBook, page int) api.Span {
	t.Helper()
	return checks.Must[api.Span](t, b)(tallies.Plates(b, page))
}

func readyAt(t *testing.T, b api.TallyBook, machine, edition, minute int) int {
	t.Helper()
	return checks.Must[int](t, b)(tallies.Ready(b, machine, edition, minute))
}

// P11.13
func TestWhatCanBe(t *testing.T) {
	parts, all := 0, 0
	for _, b := range someBooks(600, 7) {
		most := len(b.Tallies) - falseOf(t, b)
		for _, l := range checks.Subsets(len(b.Tallies)) {
			if !isGood(t, b, l) {
				continue
			}
			if len(l) > most {
				t.Fatalf("%v: %v can be true together, but False is %d", b, l, len(b.Tallies)-most)
			}
			if len(l) == most && most > 0 {
				all++
			}
			// Each other part is one of these, or a part of it.
			for place := range l {
				part := slices.Delete(slices.Clone(l), place, place+1)
				if !isGood(t, b, part) {
					t.Fatalf("%v: %v can be true together, but not %v", b, l, part)
				}
				parts++
			}
		}
	}
	if parts < 5000 || all < 1000 {
		t.Errorf("only %d parts, and %d lists that have all but False", parts, all)
	}
}

// P11.14
func TestTheStory(t *testing.T) {
	less := 0
	for _, b := range someBooks(1000, 7) {
		blame := blameOf(t, b)
		if len(blame) != falseOf(t, b) || !isGood(t, b, others(b, blame)) {
			t.Fatalf("%v: False = %d; Blame = %v", b, falseOf(t, b), blame)
		}
		for _, l := range checks.Subsets(len(b.Tallies)) {
			if len(l) != len(blame) || slices.Compare(l, blame) >= 0 {
				continue
			}
			if isGood(t, b, others(b, l)) {
				t.Fatalf("%v: Blame = %v; %v is less", b, blame, l)
			}
			less++
		}
	}
	if less < 1000 {
		t.Errorf("only %d lists were less than a story", less)
	}
}

// P11.15
func TestTwo(t *testing.T) {
	seen := map[int]int{}
	for _, b := range someBooks(800, 8) {
		for one := range b.Tallies {
			for other := range b.Tallies {
				l := list(one, other)
				slices.Sort(l)
				why, e := tallies.Clash(b, one, other)
				if isGood(t, b, slices.Compact(l)) != (e == api.ErrNone) {
					t.Fatalf("%v: Good(%v) is %v; Clash = %d, %d", b, l, e != api.ErrNone, why, e)
				}
				seen[why]++
			}
		}
	}
	for why := range 4 {
		if seen[why] < 500 {
			t.Errorf("only %v clashes of a kind", seen)
		}
	}
}

// P11.16
func TestMore(t *testing.T) {
	r := rand.New(rand.NewSource(16))
	seen := map[string]int{}
	check := func(what string, b, with api.TallyBook, more int) {
		t.Helper()
		n, m := falseOf(t, b), falseOf(t, with)
		if m > n+more || more > 0 && m < n {
			t.Fatalf("%s: False of %v = %d; of %v %d", what, b, n, with, m)
		}
		if m < n+more {
			seen[what]++
		}
		if m == n+more {
			seen["not "+what]++
		}
	}
	for _, b := range someBooks(2000, 7) {
		page, machine := r.Intn(api.MaxMachinePages), r.Intn(len(b.Walk))
		bore := b.Hall.Bores[machine]
		if many := checks.ManyOf(b.Set, page, bore); many < api.MaxMachineMany {
			check("plate", b, changed(b, func(b *api.TallyBook) { b.Set = checks.Put(b.Set, page, bore, many+1) }), 0)
		}
		if b.Walk[machine] > 0 {
			check("walk", b, changed(b, func(b *api.TallyBook) { b.Walk[machine] = r.Intn(b.Walk[machine]) * r.Intn(2) }), 0)
		}
		if b.Boys > 0 && len(b.Tallies) < api.MaxTallies {
			check("tally", b, changed(b, func(b *api.TallyBook) {
				b.Tallies = append(b.Tallies, someTally(r, *b, api.MaxMachinePages, api.MaxTallyMinute+1))
			}), 1)
		}
	}
	for _, what := range []string{"plate", "walk", "tally", "not plate", "not walk", "not tally"} {
		if seen[what] < 50 {
			t.Errorf("only %v", seen)
		}
	}
}

// P11.17
func TestWithoutOne(t *testing.T) {
	seen := map[int]int{}
	for _, b := range someBooks(1000, 8) {
		n := falseOf(t, b)
		for tally := range b.Tallies {
			k := liesOf(t, b, tally)
			want := n - 1
			if k == api.Never {
				want = n
			}
			if m := falseOf(t, without(b, tally)); m != want {
				t.Fatalf("%v: False = %d; Lies(%d) = %d; without it False = %d", b, n, tally, k, m)
			}
			seen[k]++
		}
	}
	if seen[api.Surely] < 200 || seen[api.Never] < 200 || seen[api.Perhaps] < 200 {
		t.Errorf("only %v tallies were false or not", seen)
	}
}

// P11.18
func TestLaterAndEarlier(t *testing.T) {
	seen := map[int]int{}
	for _, b := range someBooks(300, 6) {
		for machine := range b.Hall.Bores {
			for edition, pages := range b.Hall.Editions {
				was := api.Never
				for minute := range api.MaxTallyMinute + 1 {
					is := readyAt(t, b, machine, edition, minute)
					if was == api.Surely && is != api.Surely || was != api.Never && is == api.Never || len(pages) == 0 && is != api.Surely {
						t.Fatalf("%v: Ready(%d, %d, %d) = %d; a minute earlier %d", b, machine, edition, minute, is, was)
					}
					if is != was && len(pages) > 0 {
						seen[is]++
					}
					was = is
				}
				if len(pages) == 0 {
					seen[0]++
				}
			}
		}
	}
	if seen[api.Surely] < 50 || seen[api.Perhaps] < 20 || seen[0] < 50 {
		t.Errorf("only %v machines became ready, or perhaps so, or had no pages", seen)
	}
}

// P11.19
func TestAnyOrder(t *testing.T) {
	r := rand.New(rand.NewSource(19))
	moved := 0
	for _, b := range someBooks(800, 8) {
		order := r.Perm(len(b.Tallies))
		other := changed(b, func(other *api.TallyBook) {
			for place, tally := range order {
				other.Tallies[place] = b.Tallies[tally]
			}
		})
		n := checks.Must[int](t, b)(tallies.Stories(b))
		m := checks.Must[int](t, b)(tallies.Stories(other))
		if n != m || falseOf(t, b) != falseOf(t, other) {
			t.Fatalf("False of %v = %d, Stories = %d; of %v %d, %d", b, falseOf(t, b), n, other, falseOf(t, other), m)
		}
		for place, tally := range order {
			if liesOf(t, b, tally) != liesOf(t, other, place) {
				t.Fatalf("Lies of %v, %d = %d; of %v, %d %d", b, tally, liesOf(t, b, tally), other, place, liesOf(t, other, place))
			}
		}
		for page := range api.MaxMachinePages {
			if platesOf(t, b, page) != platesOf(t, other, page) {
				t.Fatalf("Plates of %v, %d = %v; of %v %v", b, page, platesOf(t, b, page), other, platesOf(t, other, page))
			}
		}
		for machine := range b.Hall.Bores {
			for edition := range b.Hall.Editions {
				minute := r.Intn(api.MaxTallyMinute + 1)
				if readyAt(t, b, machine, edition, minute) != readyAt(t, other, machine, edition, minute) {
					t.Fatalf("Ready of %v and of %v, %d %d %d differ", b, other, machine, edition, minute)
				}
			}
		}
		if n > 1 && !slices.IsSorted(order) {
			moved++
		}
	}
	if moved < 200 {
		t.Errorf("only %d books with some stories had another order", moved)
	}
}

// P11.20
func TestWhatIsLeft(t *testing.T) {
	some, none := 0, 0
	for _, b := range someBooks(2000, 8) {
		set := leftOf(t, b)
		if _, e := machines.Fit(b.Hall, 0, set); e != api.OK {
			t.Fatalf("%v: Left = %v, which is no set", b, set)
		}
		together := set
		for _, tally := range others(b, blameOf(t, b)) {
			page, bore := b.Tallies[tally].Page, b.Hall.Bores[b.Tallies[tally].Machine]
			together = checks.Put(together, page, bore, checks.ManyOf(together, page, bore)+1)
		}
		if !slices.Equal(together, b.Set) {
			t.Fatalf("%v: Left = %v; with what was brought it is %v", b, set, together)
		}
		if len(set) > 0 {
			some++
		} else if len(b.Set) > 0 {
			none++
		}
	}
	if some < 100 || none < 100 {
		t.Errorf("only in %d books some plates were left, and in %d none", some, none)
	}
}

// P11.21
func TestHonestBoys(t *testing.T) {
	all, not, idle, liars := 0, 0, 0, 0
	for _, b := range someBooks(2000, 8) {
		honest := true
		for boy := range b.Boys {
			k := honestOf(t, b, boy)
			honest = honest && k == api.Surely
			if !slices.ContainsFunc(b.Tallies, func(x api.Tally) bool { return x.Boy == boy }) {
				idle++
				if k != api.Surely {
					t.Fatalf("%v: Honest(%d) = %d, without tallies", b, boy, k)
				}
			}
		}
		if honest != (falseOf(t, b) == 0) {
			t.Fatalf("%v: False = %d; all boys are honest: %v", b, falseOf(t, b), honest)
		}
		if honest && len(b.Tallies) > 1 {
			all++
		} else if !honest {
			not++
		}
		for tally, x := range b.Tallies {
			if liesOf(t, b, tally) != api.Surely {
				continue
			}
			liars++
			if k := honestOf(t, b, x.Boy); k != api.Never {
				t.Fatalf("%v: Lies(%d) is surely; Honest(%d) = %d", b, tally, x.Boy, k)
			}
		}
	}
	if all < 50 || not < 100 || idle < 100 || liars < 100 {
		t.Errorf("only in %d books all boys were honest, in %d not; %d boys had no tallies, and %d ones surely lied", all, not, idle, liars)
	}
}

// P11.22
func TestFit(t *testing.T) {
	fits, not := 0, 0
	for _, b := range someBooks(2000, 8) {
		for machine := range b.Hall.Bores {
			fit := checks.Must[[]int](t, b)(machines.Fit(b.Hall, machine, b.Set))
			for edition, pages := range b.Hall.Editions {
				can := slices.Contains(fit, edition)
				k := readyAt(t, b, machine, edition, api.MaxTallyMinute)
				if k == api.Surely && !can {
					t.Fatalf("%v: Ready(%d, %d) is surely; Fit = %v", b, machine, edition, fit)
				}
				if k == api.Surely && len(pages) > 0 {
					fits++
				}
				if !can {
					not++
				}
			}
		}
	}
	if fits < 200 || not < 200 {
		t.Errorf("only %d machines were ready, and %d could not print an edition", fits, not)
	}
}

// somePlan puts each bundle into the list of some machine, or sometimes of none.
func somePlan(r *rand.Rand, h api.TrainHouse) [][]int {
	plan := make([][]int, len(h.Machines))
	for bundle := range h.Bundles {
		if on := r.Intn(len(plan) + 1); on < len(plan) {
			plan[on] = append(plan[on], bundle)
		}
	}
	return plan
}

// pagesOf returns all pages of the editions of some bundles, ascending.
func pagesOf(h api.MachineHall, bundles []int) []int {
	var pages []int
	for _, i := range bundles {
		pages = append(pages, h.Editions[h.House.Bundles[i].Edition]...)
	}
	slices.Sort(pages)
	return slices.Compact(pages)
}

// bringing returns the book in which one boy brings each machine all plates of a plan, one by one, and the minute of the last one.
func bringing(t *testing.T, r *rand.Rand, h api.MachineHall, plan [][]int) (api.TallyBook, int) {
	t.Helper()
	b := api.TallyBook{Hall: h, Walk: make([]int, len(plan)), Boys: api.MaxTallyBoys}
	b.Set = checks.Must[[]api.MachinePlate](t, h)(machines.Need(h, plan))
	boy, minute, pace := r.Intn(b.Boys), 0, r.Intn(10)
	for machine, bundles := range plan {
		for _, page := range pagesOf(h, bundles) {
			minute += r.Intn(pace + 1)
			b.Tallies = append(b.Tallies, api.Tally{Boy: boy, Page: page, Machine: machine, Minute: minute})
		}
	}
	return b, minute
}

// P0.8
func TestThePlatesThatWereBrought(t *testing.T) {
	r := rand.New(rand.NewSource(8))
	brought, late := 0, 0
	for range 3000 {
		h := someHall(r)
		plan := somePlan(r, h.House)
		if ok, e := trains.Good(h.House, plan); !ok || e != api.OK {
			t.Fatalf("%v: %v is no plan", h, plan)
		}
		b, last := bringing(t, r, h, plan)
		if len(b.Tallies) > api.MaxTallies {
			continue
		}
		if n, set := falseOf(t, b), leftOf(t, b); n != 0 || len(set) > 0 {
			t.Fatalf("%v: by %v False = %d; Left = %v", b, plan, n, set)
		}
		for machine, bundles := range plan {
			for _, i := range bundles {
				if k := readyAt(t, b, machine, h.House.Bundles[i].Edition, last); k != api.Surely {
					t.Fatalf("%v: by %v Ready of the bundle %d = %d", b, plan, i, k)
				}
			}
		}
		for tally, x := range b.Tallies {
			less := without(b, tally)
			if n, set := falseOf(t, less), leftOf(t, less); n != 0 || !slices.Equal(set, plates(x.Page, h.Bores[x.Machine], 1)) {
				t.Fatalf("%v: without %d False = %d; Left = %v", b, tally, n, set)
			}
			for edition, pages := range h.Editions {
				if !slices.Contains(pages, x.Page) {
					continue
				}
				if k := readyAt(t, less, x.Machine, edition, api.MaxTallyMinute); k != api.Never {
					t.Fatalf("%v: without %d Ready(%d, %d) = %d", b, tally, x.Machine, edition, k)
				}
				late++
			}
			brought++
		}
	}
	if brought < 3000 || late < 3000 {
		t.Errorf("only %d plates were brought; %d times a machine was not ready without one", brought, late)
	}
}
