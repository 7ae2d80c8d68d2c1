package fire_test

import (
	"math/rand"
	"reflect"
	"slices"
	"testing"

	"flong/api"
	"flong/changes"
	"flong/checks"
	"flong/fire"
)

func leftBy(t *testing.T, x api.FireTown, building int) []int {
	t.Helper()
	return checks.Must[[]int](t, x)(fire.Left(x, building))
}

func lostBy(t *testing.T, x api.FireTown, building int) []int {
	t.Helper()
	return checks.Must[[]int](t, x)(fire.Lost(x, building))
}

func staleBy(t *testing.T, x api.FireTown, building int) []int {
	t.Helper()
	return checks.Must[[]int](t, x)(fire.Stale(x, building))
}

func isSafe(t *testing.T, x api.FireTown) bool {
	t.Helper()
	return checks.Must[bool](t, x)(fire.Safe(x))
}

func isFresh(t *testing.T, x api.FireTown, i int) bool {
	t.Helper()
	return checks.Must[bool](t, x)(fire.Fresh(x, i))
}

func pageOf(t *testing.T, x api.FireTown, i int) int {
	t.Helper()
	return checks.Must[int](t, x)(fire.Page(x, i))
}

func bearsOf(t *testing.T, x api.FireTown, page int) int {
	t.Helper()
	return checks.Must[int](t, x)(fire.Bears(x, page))
}

// pagesOf returns all pages of which some thing is there.
func pagesOf(t *testing.T, x api.FireTown) []int {
	t.Helper()
	var pages []int
	for _, i := range there(x) {
		pages = append(pages, pageOf(t, x, i))
	}
	slices.Sort(pages)
	return slices.Compact(pages)
}

func there(x api.FireTown) []int {
	var l []int
	for i, thing := range x.House.Things {
		if thing.At <= x.Minute {
			l = append(l, i)
		}
	}
	return l
}

// freshOf returns those of some things that are fresh, and of a page.
func freshOf(t *testing.T, x api.FireTown, l []int, page int) []int {
	t.Helper()
	return slices.DeleteFunc(slices.Clone(l), func(i int) bool { return pageOf(t, x, i) != page || !isFresh(t, x, i) })
}

// within reports whether all numbers of a list are in another one.
func within(one, other []int) bool {
	return !slices.ContainsFunc(one, func(n int) bool { return !slices.Contains(other, n) })
}

// P10.13
func TestEachFire(t *testing.T) {
	lost, stale, fresh, safe := 0, 0, 0, 0
	for _, x := range someTowns(2000, 8) {
		all := true
		for _, page := range pagesOf(t, x) {
			all = all && bearsOf(t, x, page) >= 1
			for building := range x.Rooms {
				isLost, isStale := slices.Contains(lostBy(t, x, building), page), slices.Contains(staleBy(t, x, building), page)
				left := len(freshOf(t, x, leftBy(t, x, building), page)) > 0
				l, e := fire.Again(x, building, page)
				if isLost && isStale || left == (isLost || isStale) || isLost != (e == api.ErrNone) || left != (e == api.OK && len(l) == 0) {
					t.Fatalf("%v: by the fire in %d the page %d is lost: %v, stale: %v, left: %v; Again = %v, %d", x, building, page, isLost, isStale, left, l, e)
				}
				switch {
				case isLost:
					lost++
				case isStale:
					stale++
				default:
					fresh++
				}
			}
		}
		if isSafe(t, x) != all {
			t.Fatalf("%v: Safe = %v, if each page bears a fire: %v", x, !all, all)
		}
		if all && len(there(x)) > 0 {
			safe++
		}
	}
	if lost < 300 || stale < 300 || fresh < 300 || safe < 30 {
		t.Errorf("only %d pages were lost, %d stale, and %d left fresh; %d towns were safe", lost, stale, fresh, safe)
	}
}

// P10.14
func TestTheRemedy(t *testing.T) {
	safe, carried, tried := 0, 0, 0
	for _, x := range slices.Concat(someTowns(600, 5), someTowns(10, 7), []api.FireTown{townT(), twins()}) {
		n, e1 := fire.Cheap(x)
		l, e2 := fire.Carry(x)
		if e1 != e2 || e1 != api.OK && (e1 != api.ErrNone || isSafe(t, x)) {
			t.Fatalf("%v: Cheap = %d, %d; Carry = %v, %d", x, n, e1, l, e2)
		}
		if e1 == api.OK {
			pence, many := costs(x, l)
			if !isSafe(t, at(x, l)) || pence != n || isSafe(t, x) && (n != 0 || many != 0) || !within(staying(x, l), there(x)) {
				t.Fatalf("%v: Cheap = %d; Carry = %v, which costs %d", x, n, l, pence)
			}
			safe, carried = safe+1-min(many, 1), carried+min(many, 1)
		}
		for _, places := range carryings(x) {
			after := at(x, places)
			if fire.Check(after) != api.OK || !isSafe(t, after) {
				continue
			}
			tried++
			if pence, _ := costs(x, places); e1 != api.OK || pence < n {
				t.Fatalf("%v: Cheap = %d, %d; to %v it costs %d", x, n, e1, places, pence)
			}
		}
	}
	if safe < 30 || carried < 50 || tried < 3000 {
		t.Errorf("only %d towns were safe, and %d were by carrying; only %d remedies were tried", safe, carried, tried)
	}
}

// staying returns the things that are in other places than before.
func staying(x api.FireTown, places []int) []int {
	var l []int
	for i, place := range places {
		if place != x.Places[i] {
			l = append(l, i)
		}
	}
	return l
}

// P10.15
func TestNoRemedy(t *testing.T) {
	alone, none, one := 0, 0, 0
	for _, x := range someTowns(1500, 7) {
		should := false
		for _, page := range pagesOf(t, x) {
			fresh := len(freshOf(t, x, there(x), page))
			should = should || fresh < 2
			if fresh == 0 {
				none++
			} else if fresh == 1 {
				alone++
			}
		}
		if !should && len(x.Rooms) == 1 && len(there(x)) > 0 {
			should = true
			one++
		}
		if should {
			checks.Expect(t, x, api.ErrNone, carrying(x)...)
		}
	}
	if alone < 300 || none < 30 || one < 30 {
		t.Errorf("only %d pages had one fresh thing, and %d had none; only %d towns had one building", alone, none, one)
	}
}

// P10.16
func TestMore(t *testing.T) {
	r := rand.New(rand.NewSource(16))
	cheaper, first := 0, 0
	for _, x := range someTowns(900, 6) {
		was, f := fire.Cheap(x)
		var towns []api.FireTown
		for i := range x.Rooms {
			towns = append(towns, changed(x, func(x *api.FireTown) { x.Rooms[i] = min(x.Rooms[i]+1+r.Intn(3), api.MaxFireRoom) }))
		}
		for i := range x.Carry {
			towns = append(towns, changed(x, func(x *api.FireTown) { x.Carry[i] = max(x.Carry[i]-1-r.Intn(20), 0) }))
		}
		if len(x.Rooms) < api.MaxFireBuildings {
			towns = append(towns, changed(x, func(x *api.FireTown) { x.Rooms = append(x.Rooms, r.Intn(api.MaxFireRoom+1)) }))
		}
		for _, more := range towns {
			now, e := fire.Cheap(more)
			if !checks.NotGreater(now, e, was, f) {
				t.Fatalf("%v: Cheap = %d, %d; of %v %d, %d", x, was, f, more, now, e)
			}
			if f == api.OK && now < was {
				cheaper++
			} else if f == api.ErrNone && e == api.OK {
				first++
			}
		}
	}
	if cheaper < 50 || first < 30 {
		t.Errorf("only %d remedies were cheaper; only %d were the first ones", cheaper, first)
	}
}

// P10.17
func TestOneThingMore(t *testing.T) {
	saved, more := 0, 0
	for _, x := range someTowns(1500, 7) {
		for _, i := range there(x) {
			if !isFresh(t, x, i) {
				continue
			}
			for building := range x.Rooms {
				with := changed(x, func(x *api.FireTown) {
					x.House.Things = append(x.House.Things, thing(i, x.Minute, 0, 0))
					x.Places, x.Carry = append(x.Places, building), append(x.Carry, 0)
				})
				if fire.Check(with) != api.OK {
					continue
				}
				for burning := range x.Rooms {
					l, m := lostBy(t, x, burning), staleBy(t, x, burning)
					now, then := lostBy(t, with, burning), staleBy(t, with, burning)
					if !within(now, l) || !within(then, m) {
						t.Fatalf("%v: by the fire in %d %v are lost and %v stale, with a thing made of %d in %d %v and %v", x, burning, l, m, i, building, now, then)
					}
					saved += len(l) - len(now)
				}
				for _, page := range pagesOf(t, x) {
					b, now := bearsOf(t, x, page), bearsOf(t, with, page)
					if now < b {
						t.Fatalf("%v: Bears(%d) = %d, with a thing made of %d in %d %d", x, page, b, i, building, now)
					}
					more += now - b
				}
			}
		}
	}
	if saved < 100 || more < 300 {
		t.Errorf("only %d pages were not lost by one thing more; only %d more buildings may burn", saved, more)
	}
}

// P10.18
func TestOneChangeMore(t *testing.T) {
	r := rand.New(rand.NewSource(18))
	less, new, kept := 0, 0, 0
	for _, x := range someTowns(2000, 8) {
		if len(x.House.Things) == 0 || len(x.House.Marks) == api.MaxChangeMarks {
			continue
		}
		m := someMark(r, x, 1+r.Intn(20))
		more := changed(x, func(x *api.FireTown) { x.House.Marks = append(x.House.Marks, m) })
		page := pageOf(t, x, m.Thing)
		// A mark that is later than the Minute gives nobody the change as yet.
		first := m.At <= x.Minute && !slices.ContainsFunc(there(x), func(i int) bool { return pageOf(t, x, i) == page && has(t, x, i, m.Change) })
		for i := range x.House.Things {
			was, is := isFresh(t, x, i), isFresh(t, more, i)
			if pageOf(t, x, i) != page {
				if was != is {
					t.Fatalf("%v: Fresh(%d) = %v, with %v %v", x, i, was, m, is)
				}
				kept++
				continue
			}
			if first && is {
				if !has(t, more, i, m.Change) {
					t.Fatalf("%v: Fresh(%d) = %v, with %v, which it has not", x, i, is, m)
				}
				new++
			}
			if was && !is {
				less++
			}
		}
		for building := range x.Rooms {
			if l, now := lostBy(t, x, building), lostBy(t, more, building); !within(now, l) {
				t.Fatalf("%v: Lost(%d) = %v, with %v %v", x, building, l, m, now)
			}
		}
	}
	if less < 100 || new < 100 || kept < 300 {
		t.Errorf("only %d things were fresh no more, %d were as they had the change, and %d were of another page", less, new, kept)
	}
}

// has reports whether a thing has a change at the Minute.
func has(t *testing.T, x api.FireTown, i, change int) bool {
	t.Helper()
	return checks.Must[bool](t, x)(changes.Has(x.House, i, change, x.Minute))
}

// P10.19
func TestWorst(t *testing.T) {
	seen := map[int]int{}
	for _, x := range someTowns(2000, 8) {
		worst := checks.Must[int](t, x)(fire.Worst(x))
		for building := range x.Rooms {
			if len(lostBy(t, x, building)) > len(lostBy(t, x, worst)) {
				t.Fatalf("%v: Worst = %d; in %d %v are lost", x, worst, building, lostBy(t, x, building))
			}
		}
		seen[worst]++
	}
	if seen[0] < 100 || seen[1] < 100 || seen[2] < 100 {
		t.Errorf("the worst fires: %v", seen)
	}
}

// P10.20
func TestAnyOrder(t *testing.T) {
	r := rand.New(rand.NewSource(20))
	other := 0
	for _, x := range someTowns(1000, 6) {
		order := r.Perm(len(x.Rooms))
		turned := changed(x, func(x *api.FireTown) {
			rooms := slices.Clone(x.Rooms)
			for building, to := range order {
				x.Rooms[to] = rooms[building]
			}
			for i, place := range x.Places {
				x.Places[i] = order[place]
			}
		})
		if !slices.IsSorted(order) {
			other++
		}
		n, e := fire.Cheap(x)
		m, f := fire.Cheap(turned)
		if isSafe(t, x) != isSafe(t, turned) || n != m || e != f {
			t.Fatalf("%v: Safe = %v, Cheap = %d, %d; in the order %v %v, %d, %d", x, isSafe(t, x), n, e, order, isSafe(t, turned), m, f)
		}
		for _, page := range pagesOf(t, x) {
			if b, c := bearsOf(t, x, page), bearsOf(t, turned, page); b != c {
				t.Fatalf("%v: Bears(%d) = %d, in the order %v %d", x, page, b, order, c)
			}
		}
	}
	if other < 300 {
		t.Errorf("only %d towns came in another order", other)
	}
}

// told is what a call returned.
type told struct {
	l []int
	n int
	e api.Errno
}

// learn returns what the calls say of the town and its first things.
func learn(x api.FireTown, first int) []told {
	var all []told
	keep := func(l []int, n int, e api.Errno) { all = append(all, told{append([]int{}, l...), n, e}) }
	one := func(n int, e api.Errno) { keep(nil, n, e) }
	is := func(ok bool, e api.Errno) {
		n := 0
		if ok {
			n = 1
		}
		one(n, e)
	}
	some := func(l []int, e api.Errno) { keep(l, 0, e) }
	one(0, fire.Check(x))
	is(fire.Safe(x))
	one(fire.Worst(x))
	one(fire.Cheap(x))
	l, e := fire.Carry(x)
	some(l[:min(first, len(l))], e)
	for i := range first {
		one(fire.Page(x, i))
		is(fire.Fresh(x, i))
		one(fire.Bears(x, i))
	}
	for building := range x.Rooms {
		some(fire.Left(x, building))
		some(fire.Lost(x, building))
		some(fire.Stale(x, building))
		for i := range first {
			some(fire.Again(x, building, i))
		}
	}
	return all
}

// P10.21
func TestWhatIsNotThere(t *testing.T) {
	marked, remedied := 0, 0
	for _, x := range someTowns(6000, 7) {
		last := len(x.House.Things) - 1
		if last < 0 || x.House.Things[last].At <= x.Minute {
			continue
		}
		fewer := changed(x, func(x *api.FireTown) {
			x.House.Things, x.Places, x.Carry = x.House.Things[:last], x.Places[:last], x.Carry[:last]
			x.House.Marks = slices.DeleteFunc(x.House.Marks, func(m api.ChangeMark) bool { return m.Thing == last })
		})
		if was, now := learn(x, last), learn(fewer, last); !reflect.DeepEqual(was, now) {
			t.Fatalf("%v: %v, without the last thing %v", x, was, now)
		}
		if len(fewer.House.Marks) < len(x.House.Marks) {
			marked++
		}
		if l, e := fire.Carry(x); e == api.OK && len(staying(x, l)) > 0 {
			if l[last] != x.Places[last] {
				t.Fatalf("%v: Carry = %v", x, l)
			}
			remedied++
		}
	}
	if marked < 30 || remedied < 30 {
		t.Errorf("only %d things that were not there had marks; only %d times others were carried", marked, remedied)
	}
}

// altered returns the town with things that are altered from the Minute on, so that they have a change.
func altered(x api.FireTown, l []int, change int) api.FireTown {
	return changed(x, func(x *api.FireTown) {
		for _, i := range l {
			x.House.Marks = append(x.House.Marks, mark(change, i, max(x.Minute, x.House.Things[i].At)))
		}
	})
}

// P0.11
func TestTheRemedyAndTheFire(t *testing.T) {
	needed, kept := 0, 0
	for i, x := range someTowns(3000, 8) {
		change := i % api.MaxChanges
		x = changed(x, func(x *api.FireTown) {
			x.House.Marks = slices.DeleteFunc(x.House.Marks, func(m api.ChangeMark) bool { return m.At > x.Minute })
			for i := range x.House.Marks {
				x.House.Marks[i].Change = change
			}
		})
		remedy := checks.Must[[]int](t, x)(changes.Remedy(x.House, change, x.Minute))
		if len(x.House.Marks) == 0 || len(x.House.Marks)+len(remedy) > api.MaxChangeMarks {
			continue
		}
		after := altered(x, remedy, change)
		buildings := map[int][]int{}
		for _, i := range there(x) {
			if x.House.Things[i].Prints == 0 {
				continue
			}
			if !isFresh(t, after, i) {
				t.Fatalf("%v: with %v altered %d is not fresh", x, remedy, i)
			}
			if !isFresh(t, x, i) {
				needed++
			}
			page := pageOf(t, x, i)
			buildings[page] = append(buildings[page], x.Places[i])
		}
		for page, l := range buildings {
			slices.Sort(l)
			if len(slices.Compact(l)) < 2 {
				continue
			}
			for building := range x.Rooms {
				if slices.Contains(lostBy(t, after, building), page) || slices.Contains(staleBy(t, after, building), page) {
					t.Fatalf("%v: with %v altered, the page %d is lost or stale by the fire in %d", x, remedy, page, building)
				}
			}
			kept++
		}
	}
	if needed < 100 || kept < 100 {
		t.Errorf("only %d plates had to be altered; only %d pages had plates in two buildings", needed, kept)
	}
}
