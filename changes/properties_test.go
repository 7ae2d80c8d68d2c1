package changes_test

import (
	"math/rand"
	"reflect"
	"slices"
	"testing"

	"flong/api"
	"flong/changes"
	"flong/checks"
	"flong/copies"
)

func hasIt(t *testing.T, h api.ChangeHouse, thing, change, minute int) bool {
	t.Helper()
	return checks.Must[bool](t, h)(changes.Has(h, thing, change, minute))
}

// firstMinute returns the minute of Since, or one behind all others if there is none.
func firstMinute(t *testing.T, h api.ChangeHouse, thing, change int) int {
	t.Helper()
	n, e := changes.Since(h, thing, change)
	if e == api.ErrNone {
		return 100
	}
	return checks.Must[int](t, h)(n, e)
}

func allWith(t *testing.T, h api.ChangeHouse, change int) []int {
	t.Helper()
	return checks.Must[[]int](t, h)(changes.All(h, change))
}

func lacks(t *testing.T, h api.ChangeHouse, change int) []int {
	t.Helper()
	return checks.Must[[]int](t, h)(changes.Lacks(h, change))
}

func cheap(t *testing.T, h api.ChangeHouse, change, now int) int {
	t.Helper()
	return checks.Must[int](t, h)(changes.Cheap(h, change, now))
}

func remedy(t *testing.T, h api.ChangeHouse, change, now int) []int {
	t.Helper()
	return checks.Must[[]int](t, h)(changes.Remedy(h, change, now))
}

func mixedBy(t *testing.T, h api.ChangeHouse, plates []int, minute int) []int {
	t.Helper()
	return checks.Must[[]int](t, h)(changes.Mixed(h, plates, minute))
}

// printing returns all plates that print and are there at a minute.
func printing(h api.ChangeHouse, minute int) []int {
	var plates []int
	for i, x := range h.Things {
		if x.Prints == 1 && x.At <= minute {
			plates = append(plates, i)
		}
	}
	return plates
}

// only returns the house with the marks of one change alone.
func only(h api.ChangeHouse, change int) api.ChangeHouse {
	return changed(h, func(h *api.ChangeHouse) {
		h.Marks = slices.DeleteFunc(h.Marks, func(m api.ChangeMark) bool { return m.Change != change })
	})
}

// someMinutes has minutes from which on things are altered.
func someMinutes() []int { return list(0, 3, 10, 40, 80, 95, 99) }

// P7.12
func TestItStays(t *testing.T) {
	r := rand.New(rand.NewSource(12))
	earlier, stays := 0, 0
	for _, h := range someHouses(400, 8) {
		if len(h.Things) == 0 {
			continue
		}
		more := with(h, someMark(r, h, 20))
		if changes.Check(more) != api.OK {
			more = h
		}
		for change := range 3 {
			for thing := range h.Things {
				was, now := firstMinute(t, h, thing, change), firstMinute(t, more, thing, change)
				if now > was {
					t.Fatalf("%v: Since(%d, %d) = %d, with one more mark %d", h, thing, change, was, now)
				}
				if now < was {
					earlier++
				}
				for minute := range 100 {
					// Has has not until Since, and has from then on.
					if is, then := hasIt(t, h, thing, change, minute), hasIt(t, more, thing, change, minute); is != (minute >= was) || is && !then {
						t.Fatalf("%v: Has(%d, %d, %d) = %v, Since = %d; with one more mark %v", h, thing, change, minute, is, was, then)
					} else if is {
						stays++
					}
				}
			}
		}
	}
	if earlier < 50 || stays < 1000 {
		t.Errorf("only %d things had a change earlier; only %d times one had it", earlier, stays)
	}
}

// P7.13
func TestFromWhatItIsMadeOf(t *testing.T) {
	made, own, other := 0, 0, 0
	for _, h := range someHouses(1500, 8) {
		for change := range 3 {
			for thing, x := range h.Things {
				with := x.Of >= 0 && hasIt(t, h, x.Of, change, x.At)
				by := slices.Contains(h.Marks, mark(change, thing, x.At))
				if is := hasIt(t, h, thing, change, x.At); is != (with || by) {
					t.Fatalf("%v: Has(%d, %d, %d) = %v, with %v, by a mark %v", h, thing, change, x.At, is, with, by)
				}
				if with {
					made++
				}
				switch checkSource(t, h, thing, change) {
				case -1:
				case thing:
					own++
				default:
					other++
				}
			}
		}
	}
	if made < 300 || own < 300 || other < 300 {
		t.Errorf("only %d things were made with a change; only %d had it by a mark of their own, %d by another one", made, own, other)
	}
}

// checkSource checks that a thing has a change by Source, whatever other marks there are; it returns of which thing this mark is, or -1.
func checkSource(t *testing.T, h api.ChangeHouse, thing, change int) int {
	t.Helper()
	since := firstMinute(t, h, thing, change)
	k, e := changes.Source(h, thing, change)
	if since == 100 {
		checks.Expect(t, h, api.ErrNone, checks.Said("Source", e, k == 0))
		return -1
	}
	m := h.Marks[checks.Must[int](t, h)(k, e)]
	from := thing
	for from != m.Thing && from >= 0 {
		from = h.Things[from].Of
	}
	alone := changed(h, func(h *api.ChangeHouse) { h.Marks = []api.ChangeMark{m} })
	if m.Change != change || from < 0 || m.At > since || firstMinute(t, alone, thing, change) != since {
		t.Fatalf("%v: Since(%d, %d) = %d, Source = %d", h, thing, change, since, k)
	}
	return m.Thing
}

// P7.14
func TestTheRemedy(t *testing.T) {
	tried, none := 0, 0
	for _, h := range someHouses(150, 6) {
		for change := range 3 {
			for _, now := range someMinutes() {
				l, n := remedy(t, h, change, now), cheap(t, h, change, now)
				if costs(h, l) != n || len(lacks(t, h, change)) == 0 && len(l) > 0 {
					t.Fatalf("%v: Cheap(%d, %d) = %d, Remedy = %v", h, change, now, n, l)
				}
				if len(l) == 0 {
					none++
				}
				for _, other := range append(checks.Subsets(len(h.Things)), l) {
					// The marks of the change, and those that stand for what is altered, may be too many.
					as := altered(only(h, change), other, change, now)
					if changes.Check(as) != api.OK {
						continue
					}
					tried++
					left := lacks(t, as, change)
					if slices.Equal(other, l) && len(left) > 0 || len(left) == 0 && costs(h, other) < n {
						t.Fatalf("%v: Cheap(%d, %d) = %d, Remedy = %v; with %v altered %v lack it", h, change, now, n, l, other, left)
					}
				}
			}
		}
	}
	if tried < 10000 || none < 100 {
		t.Errorf("only %d lists of things were altered; only %d remedies were empty", tried, none)
	}
}

// P7.15
func TestDearerAndLater(t *testing.T) {
	dearer, later := 0, 0
	for _, h := range someHouses(150, 7) {
		change := len(h.Marks) % 3
		for _, now := range someMinutes() {
			n, all := cheap(t, h, change, now), lacks(t, h, change)
			as := altered(only(h, change), all, change, now)
			if n > costs(h, all) || changes.Check(as) == api.OK && len(lacks(t, as, change)) > 0 {
				t.Fatalf("%v: Cheap(%d, %d) = %d, Lacks = %v", h, change, now, n, all)
			}
			for thing := range h.Things {
				more := changed(h, func(h *api.ChangeHouse) { h.Things[thing].Cost = min(h.Things[thing].Cost+1+now%5, 99) })
				dear := cheap(t, more, change, now)
				if dear < n {
					t.Fatalf("%v: Cheap(%d, %d) = %d, if thing %d costs more %d", h, change, now, n, thing, dear)
				}
				dearer += min(dear-n, 1)
			}
		}
		was := 0
		for now := range 100 {
			n := cheap(t, h, change, now)
			if n < was {
				t.Fatalf("%v: Cheap(%d, %d) = %d, a minute earlier %d", h, change, now, n, was)
			}
			if now > 0 {
				later += min(n-was, 1)
			}
			was = n
		}
	}
	if dearer < 100 || later < 30 {
		t.Errorf("only %d remedies were dearer if a thing was; only %d were if they were later", dearer, later)
	}
}

// P7.16
func TestMixedPlates(t *testing.T) {
	more, many := 0, 0
	for _, h := range someHouses(400, 8) {
		for minute := range 100 {
			plates := printing(h, minute)
			for n, plate := range plates {
				if l := mixedBy(t, h, list(plate), minute); len(l) > 0 {
					t.Fatalf("%v: Mixed(%d, %d) = %v", h, plate, minute, l)
				}
				fewer := mixedBy(t, h, slices.Concat(plates[:n], plates[n+1:]), minute)
				now := mixedBy(t, h, plates, minute)
				if slices.ContainsFunc(fewer, func(change int) bool { return !slices.Contains(now, change) }) {
					t.Fatalf("%v: Mixed(%v, %d) = %v, without %d %v", h, plates, minute, now, plate, fewer)
				}
				more += len(now) - len(fewer)
			}
			for _, change := range mixedBy(t, h, plates, minute) {
				if s := checks.Must[api.Span](t, h)(changes.Time(h, change)); minute < s.Low || minute > s.High {
					t.Fatalf("%v: Mixed(%v, %d) has %d, Time = %v", h, plates, minute, change, s)
				}
				many++
			}
		}
	}
	if more < 1000 || many < 1000 {
		t.Errorf("only %d changes were mixed with one more plate; only %d were at all", more, many)
	}
}

// learned is what the calls say of a change; Source is left out, as the numbers of marks may be others.
type learned struct {
	since, all, lacks []int
	time              api.Span
	remedies          [][]int
	must              []int
}

func learn(t *testing.T, h api.ChangeHouse, change int) learned {
	t.Helper()
	l := learned{all: allWith(t, h, change), lacks: lacks(t, h, change)}
	for thing := range h.Things {
		l.since = append(l.since, firstMinute(t, h, thing, change))
	}
	if s, e := changes.Time(h, change); e != api.ErrNone {
		l.time = checks.Must[api.Span](t, h)(s, e)
	}
	for _, now := range someMinutes() {
		l.remedies = append(l.remedies, append(list(cheap(t, h, change, now)), remedy(t, h, change, now)...))
		for thing := range h.Things {
			l.must = append(l.must, checks.Must[int](t, h)(changes.Must(h, change, now, thing)))
		}
	}
	return l
}

// P7.17
func TestOtherChanges(t *testing.T) {
	fewer := 0
	for _, h := range someHouses(250, 6) {
		for change := range 3 {
			was, alone := learn(t, h, change), only(h, change)
			if now := learn(t, alone, change); !reflect.DeepEqual(was, now) {
				t.Fatalf("%v: of %d %v, without other marks %v", h, change, was, now)
			}
			fewer += min(len(h.Marks)-len(alone.Marks), 1)
			for thing := range h.Things {
				// With other marks in place of those of other changes, Source is the same, too.
				other := changed(h, func(h *api.ChangeHouse) {
					for i, m := range h.Marks {
						if m.Change != change {
							h.Marks[i] = mark(3-change-m.Change, thing, h.Things[thing].At)
						}
					}
				})
				one, e := changes.Source(h, thing, change)
				if k, f := changes.Source(other, thing, change); k != one || f != e {
					t.Fatalf("%v: Source(%d, %d) = %d, %d, with other marks %d, %d", h, thing, change, one, e, k, f)
				}
			}
		}
	}
	if fewer < 200 {
		t.Errorf("only %d times there were marks of another change", fewer)
	}
}

// P7.18
func TestAllAndLacksTogether(t *testing.T) {
	in, out := 0, 0
	for _, h := range someHouses(1000, 8) {
		for change := range 3 {
			a, l := allWith(t, h, change), lacks(t, h, change)
			for thing, x := range h.Things {
				has, not := slices.Contains(a, thing), slices.Contains(l, thing)
				if has != hasIt(t, h, thing, change, 99) || has && not || x.Prints == 1 && !has && !not || x.Prints == 0 && not {
					t.Fatalf("%v: All(%d) = %v, Lacks = %v", h, change, a, l)
				}
			}
			if !slices.IsSorted(a) || !slices.IsSorted(l) || len(slices.Compact(a)) != len(a) || len(slices.Compact(l)) != len(l) {
				t.Fatalf("%v: All(%d) = %v, Lacks = %v", h, change, a, l)
			}
			in, out = in+len(a), out+len(l)
		}
	}
	if in < 1000 || out < 1000 {
		t.Errorf("only %d things had a change, and %d lacked one", in, out)
	}
}

// P7.19
func TestAThingLess(t *testing.T) {
	cheaper := 0
	for _, h := range append(someHouses(300, 8), houseH(), houseG(), houseL()) {
		last := len(h.Things) - 1
		if last < 0 {
			continue
		}
		// Nothing is made of the last thing, as it would be behind it.
		fewer := changed(h, func(h *api.ChangeHouse) {
			h.Things = h.Things[:last]
			h.Marks = slices.DeleteFunc(h.Marks, func(m api.ChangeMark) bool { return m.Thing == last })
		})
		for change := range 3 {
			for thing := range last {
				if was, now := firstMinute(t, h, thing, change), firstMinute(t, fewer, thing, change); was != now {
					t.Fatalf("%v: Since(%d, %d) = %d, without the last thing %d", h, thing, change, was, now)
				}
			}
			for _, now := range someMinutes() {
				n, less := cheap(t, h, change, now), cheap(t, fewer, change, now)
				if less > n {
					t.Fatalf("%v: Cheap(%d, %d) = %d, without the last thing %d", h, change, now, n, less)
				}
				cheaper += min(n-less, 1)
			}
		}
	}
	if cheaper < 100 {
		t.Errorf("only %d remedies were cheaper", cheaper)
	}
}

// P7.20
func TestWhatMustBe(t *testing.T) {
	seen := map[int]int{}
	for _, h := range someHouses(300, 7) {
		for change := range 3 {
			for _, now := range someMinutes() {
				l := remedy(t, h, change, now)
				for thing := range h.Things {
					k := checks.Must[int](t, h)(changes.Must(h, change, now, thing))
					if in := slices.Contains(l, thing); in && k == api.Never || !in && k == api.Surely {
						t.Fatalf("%v: Remedy(%d, %d) = %v, Must(%d) = %d", h, change, now, l, thing, k)
					}
					seen[k]++
				}
			}
		}
	}
	if seen[api.Surely] < 300 || seen[api.Never] < 300 || seen[api.Perhaps] < 300 {
		t.Errorf("things that are altered surely (1), never (2) and perhaps (3): %v", seen)
	}
}

// P0.4
func TestTheCopiesThatShowIt(t *testing.T) {
	seen := map[bool]int{}
	for _, h := range someHouses(900, 8) {
		all := printing(h, 99)
		plates := all[:min(len(all), api.MaxCopyPlates)]
		if len(plates) == 0 {
			continue
		}
		there := 0
		for _, plate := range plates {
			there = max(there, h.Things[plate].At)
		}
		for minute := there; minute < api.MaxCopyMinute; minute++ {
			named := mixedBy(t, h, plates, minute)
			for change := range 3 {
				should := slices.Contains(named, change)
				checkMinute(t, h, plates, change, minute, should)
				seen[should]++
			}
		}
	}
	if seen[true] < 500 || seen[false] < 500 {
		t.Errorf("copies mix or not in %v minutes", seen)
	}
}

// until is a run of the first so many minutes of a machine of which the plates were changed when they have a change, with a copy of the last one.
func until(t *testing.T, h api.ChangeHouse, plates []int, change, last int) api.CopyRun {
	t.Helper()
	m, f := api.CopyMachine{Rate: 1}, api.CopyFound{Minute: last - 1, From: list(0)}
	for _, plate := range plates {
		minute := min(firstMinute(t, h, plate, change), last)
		m.Changes, f.New = append(m.Changes, span(minute, minute)), append(f.New, api.CopyNot)
	}
	return api.CopyRun{Plates: len(plates), Last: last, Machines: []api.CopyMachine{m}, Found: []api.CopyFound{f}}
}

// mixing returns how many copies of a run mix.
func mixing(t *testing.T, r api.CopyRun) int {
	t.Helper()
	s := checks.Must[api.Span](t, r)(copies.Mixes(r))
	if s.Low != s.High {
		t.Fatalf("%v: Mixes = %v", r, s)
	}
	return s.Low
}

// checkMinute checks that the machine's copies mix in a minute just if they should: by Mixes of the run up to it, and behind it, and by what a copy shows.
func checkMinute(t *testing.T, h api.ChangeHouse, plates []int, change, minute int, should bool) {
	t.Helper()
	r := until(t, h, plates, change, minute+1)
	many := mixing(t, r)
	if minute > 0 {
		many -= mixing(t, until(t, h, plates, change, minute))
	}
	seen := map[int]int{}
	for plate := range plates {
		seen[checks.Must[int](t, r)(copies.Read(r, 0, plate))]++
	}
	if (many == 1) != should || many > 1 || (seen[api.Surely] > 0 && seen[api.Never] > 0) != should || seen[api.Perhaps] > 0 {
		t.Fatalf("%v, %v: %d copies of minute %d mix, they show %v", h, plates, many, minute, seen)
	}
}
