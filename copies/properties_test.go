package copies_test

import (
	"math/rand"
	"slices"
	"testing"

	"flong/api"
	"flong/checks"
	"flong/copies"
)

func when(t *testing.T, r api.CopyRun, machine, plate int) api.Span {
	t.Helper()
	return checks.Must[api.Span](t, r)(copies.When(r, machine, plate))
}

func where(t *testing.T, r api.CopyRun, found int) []int {
	t.Helper()
	return checks.Must[[]int](t, r)(copies.Where(r, found))
}

func old(t *testing.T, r api.CopyRun, plate int) api.Span {
	t.Helper()
	return checks.Must[api.Span](t, r)(copies.Old(r, plate))
}

func mixes(t *testing.T, r api.CopyRun) api.Span {
	t.Helper()
	return checks.Must[api.Span](t, r)(copies.Mixes(r))
}

func read(t *testing.T, r api.CopyRun, found, plate int) int {
	t.Helper()
	return checks.Must[int](t, r)(copies.Read(r, found, plate))
}

// hasTruth reports whether there is a truth, by Truth.
func hasTruth(t *testing.T, r api.CopyRun) bool {
	t.Helper()
	x, e := copies.Truth(r)
	if e == api.ErrNone {
		return false
	}
	if ok, e2 := copies.Holds(r, x); !ok || e != api.OK || e2 != api.OK {
		t.Fatalf("%v: Truth = %v, %d; Holds = %v, %d", r, x, e, ok, e2)
	}
	return true
}

func inside(n int, s api.Span) bool { return s.Low <= n && n <= s.High }

// bears reports whether what is known bears out that something is so in a truth, or is not.
func bears(known int, so bool) bool {
	return known == api.Perhaps || known == api.Surely && so || known == api.Never && !so
}

// P6.13
func TestEachTruth(t *testing.T) {
	for _, x := range append(someRuns(200, small), someRuns(60, three)...) {
		for _, y := range truths(x.run) {
			checkTruth(t, x.run, y)
		}
	}
	for _, x := range someRuns(100, large) {
		checkTruth(t, x.run, x.truth)
	}
}

func checkTruth(t *testing.T, r api.CopyRun, x api.CopyTruth) {
	t.Helper()
	if ok, e := copies.Holds(r, x); !ok || e != api.OK {
		t.Fatalf("%v: Holds(%v) = %v, %d", r, x, ok, e)
	}
	if s := mixes(t, r); !inside(wantMixes(r, x), s) {
		t.Fatalf("%v, %v: Mixes = %v", r, x, s)
	}
	for plate := range r.Plates {
		if s := old(t, r, plate); !inside(wantOld(r, x, plate), s) {
			t.Fatalf("%v, %v: Old(%d) = %v", r, x, plate, s)
		}
	}
	for machine, minutes := range x.Minutes {
		for plate, minute := range minutes {
			if s := when(t, r, machine, plate); !inside(minute, s) {
				t.Fatalf("%v, %v: When(%d, %d) = %v", r, x, machine, plate, s)
			}
		}
		if k := checks.Must[int](t, r)(copies.Mixed(r, machine)); !bears(k, len(wantMixing(r, x, machine)) > 0) {
			t.Fatalf("%v, %v: Mixed(%d) = %d", r, x, machine, k)
		}
	}
	for one, machine := range x.From {
		if l := where(t, r, one); !slices.Contains(l, machine) {
			t.Fatalf("%v, %v: Where(%d) = %v", r, x, one, l)
		}
		for other, from := range x.From {
			if k := checks.Must[int](t, r)(copies.Same(r, one, other)); !bears(k, machine == from) {
				t.Fatalf("%v, %v: Same(%d, %d) = %d", r, x, one, other, k)
			}
		}
		for plate, minute := range x.Minutes[machine] {
			if k := read(t, r, one, plate); !bears(k, minute <= r.Found[one].Minute) {
				t.Fatalf("%v, %v: Read(%d, %d) = %d", r, x, one, plate, k)
			}
		}
	}
}

// P6.14
func TestBothEnds(t *testing.T) {
	inner := 0
	for _, x := range append(someRuns(800, small), someRuns(60, large)...) {
		r := x.run
		for machine, m := range r.Machines {
			for plate, changes := range m.Changes {
				within := func(low, high int) api.CopyRun {
					return changed(r, func(r *api.CopyRun) { r.Machines[machine].Changes[plate] = span(low, high) })
				}
				s := when(t, r, machine, plate)
				if !hasTruth(t, within(s.Low, s.Low)) || !hasTruth(t, within(s.High, s.High)) {
					t.Fatalf("%v: When(%d, %d) = %v, and an end is in no truth", r, machine, plate, s)
				}
				if changes.Low < s.Low && hasTruth(t, within(changes.Low, s.Low-1)) || changes.High > s.High && hasTruth(t, within(s.High+1, changes.High)) {
					t.Fatalf("%v: When(%d, %d) = %v, and a minute beyond is in a truth", r, machine, plate, s)
				}
				if s != changes {
					inner++
				}
			}
		}
	}
	if inner < 100 {
		t.Errorf("only of %d plates When was within Changes", inner)
	}
}

// learned is what the calls say of a run: its spans, from where its copies are, and what is known.
type learned struct {
	spans  []api.Span
	where  [][]int
	fewest int
	known  []int
}

// learn asks for all that is said of a run, but of the copies only of the first so many.
func learn(t *testing.T, r api.CopyRun, many int) learned {
	t.Helper()
	l := learned{spans: []api.Span{mixes(t, r)}, fewest: checks.Must[int](t, r)(copies.Fewest(r))}
	for plate := range r.Plates {
		l.spans = append(l.spans, old(t, r, plate))
	}
	for machine := range r.Machines {
		l.known = append(l.known, checks.Must[int](t, r)(copies.Mixed(r, machine)))
		for plate := range r.Plates {
			l.spans = append(l.spans, when(t, r, machine, plate))
		}
	}
	for one := range many {
		l.where = append(l.where, where(t, r, one))
		for other := range many {
			l.known = append(l.known, checks.Must[int](t, r)(copies.Same(r, one, other)))
		}
	}
	return l
}

// checkMore checks that no less is known now than was; it reports whether more is.
func checkMore(t *testing.T, what any, was, now learned) bool {
	t.Helper()
	more := now.fewest > was.fewest
	if now.fewest < was.fewest {
		t.Fatalf("%v: Fewest was %d, now %d", what, was.fewest, now.fewest)
	}
	for i, s := range was.spans {
		if n := now.spans[i]; n.Low < s.Low || n.High > s.High {
			t.Fatalf("%v: a span was %v, now %v", what, s, n)
		}
		more = more || now.spans[i] != s
	}
	for i, l := range was.where {
		if slices.ContainsFunc(now.where[i], func(machine int) bool { return !slices.Contains(l, machine) }) {
			t.Fatalf("%v: Where was %v, now %v", what, l, now.where[i])
		}
		more = more || len(now.where[i]) < len(l)
	}
	for i, k := range was.known {
		if k != api.Perhaps && now.known[i] != k {
			t.Fatalf("%v: %d was known, now %d", what, k, now.known[i])
		}
		more = more || now.known[i] != k
	}
	return more
}

// P6.15
func TestOneCopyMore(t *testing.T) {
	more, none := 0, 0
	for _, x := range append(someRuns(400, small), someRuns(60, large)...) {
		if len(x.run.Found) == 0 {
			continue
		}
		for i := range x.run.Found {
			// Any copy is taken for the one that was found last.
			fewer := changed(x.run, func(r *api.CopyRun) { r.Found = slices.Delete(r.Found, i, i+1) })
			last := changed(fewer, func(r *api.CopyRun) { r.Found = append(r.Found, x.run.Found[i]) })
			was := learn(t, fewer, len(fewer.Found))
			if checkMore(t, last, was, learn(t, last, len(fewer.Found))) {
				more++
			}
			// One that shows the contrary may be in no truth.
			other := changed(last, func(r *api.CopyRun) {
				for plate, shows := range r.Found[len(r.Found)-1].New {
					r.Found[len(r.Found)-1].New[plate] = []int{-1, 1, 0}[shows+1]
				}
			})
			if !hasTruth(t, other) {
				none++
			} else if checkMore(t, other, was, learn(t, other, len(fewer.Found))) {
				more++
			}
		}
	}
	if more < 300 || none < 100 {
		t.Errorf("only %d copies told more; only %d were in no truth", more, none)
	}
}

// P6.16
func TestClearer(t *testing.T) {
	more, none := 0, 0
	for _, x := range append(someRuns(300, small), someRuns(20, large)...) {
		was := learn(t, x.run, len(x.run.Found))
		for _, r := range clearer(x.run) {
			if !hasTruth(t, r) {
				none++
			} else if checkMore(t, r, was, learn(t, r, len(r.Found))) {
				more++
			}
		}
	}
	if more < 300 || none < 100 {
		t.Errorf("only %d runs told more; only in %d there was no truth", more, none)
	}
}

// P6.17
func TestOfOneMachine(t *testing.T) {
	seen := map[int]int{}
	for _, x := range append(someRuns(400, small), someRuns(100, large)...) {
		for machine := range x.run.Machines {
			r := changed(x.run, func(r *api.CopyRun) {
				r.Found = slices.DeleteFunc(r.Found, func(f api.CopyFound) bool { return !slices.Contains(f.From, machine) })
				for i := range r.Found {
					r.Found[i].From = list(machine)
				}
			})
			if !hasTruth(t, r) {
				continue
			}
			n := checks.Must[int](t, r)(copies.Fewest(r))
			if n != min(len(r.Found), 1) {
				t.Fatalf("%v: Fewest = %d", r, n)
			}
			seen[n]++
			for other, m := range r.Machines {
				for plate, changes := range m.Changes {
					if s := when(t, r, other, plate); other != machine && s != changes {
						t.Fatalf("%v: When(%d, %d) = %v", r, other, plate, s)
					}
				}
			}
		}
	}
	if seen[0] < 50 || seen[1] < 50 {
		t.Errorf("Fewest was %v times 0 and 1", seen)
	}
}

// P6.18
func TestFoundOut(t *testing.T) {
	some, none := 0, 0
	for _, x := range append(someRuns(400, small), someRuns(60, large)...) {
		for i, f := range x.run.Found {
			from := func(l []int) api.CopyRun { return changed(x.run, func(r *api.CopyRun) { r.Found[i].From = l }) }
			l := where(t, x.run, i)
			for _, machine := range l {
				if r := from(list(machine)); !hasTruth(t, r) {
					t.Fatalf("%v: Where(%d) = %v, and there is no truth", r, i, l)
				}
				some++
			}
			// A machine that is none of From is not asked for: Where says nothing of it.
			others := slices.DeleteFunc(slices.Clone(f.From), func(machine int) bool { return slices.Contains(l, machine) })
			for n := range others {
				if r := from(others[n:]); hasTruth(t, r) {
					t.Fatalf("%v: Where(%d) = %v, and there is a truth", r, i, l)
				}
				none++
			}
		}
	}
	if some < 500 || none < 100 {
		t.Errorf("only %d machines were ones of Where, and %d were not", some, none)
	}
}

// P6.19
func TestAnyOrder(t *testing.T) {
	r := rand.New(rand.NewSource(19))
	for _, x := range append(someRuns(300, small), someRuns(100, large)...) {
		turned := changed(x.run, func(run *api.CopyRun) {
			r.Shuffle(len(run.Found), func(i, k int) { run.Found[i], run.Found[k] = run.Found[k], run.Found[i] })
		})
		was, now := learn(t, x.run, 0), learn(t, turned, 0)
		if !slices.Equal(was.spans, now.spans) || !slices.Equal(was.known, now.known) || was.fewest != now.fewest {
			t.Fatalf("%v: %v, turned %v", x.run, was, now)
		}
	}
}

// P6.20
func TestTheRates(t *testing.T) {
	greater := 0
	for _, x := range append(someRuns(300, small), someRuns(100, large)...) {
		for times := range api.MaxCopyRate + 1 {
			r := changed(x.run, func(r *api.CopyRun) {
				for i := range r.Machines {
					r.Machines[i].Rate *= times
				}
			})
			if copies.Check(r) != api.OK {
				continue
			}
			as := func(was, now api.Span) bool { return now == span(was.Low*times, was.High*times) }
			if was, now := mixes(t, x.run), mixes(t, r); !as(was, now) {
				t.Fatalf("%v: Mixes = %v, with %d times the rates %v", x.run, was, times, now)
			} else if now.High > was.High {
				greater++
			}
			for plate := range r.Plates {
				if was, now := old(t, x.run, plate), old(t, r, plate); !as(was, now) {
					t.Fatalf("%v: Old(%d) = %v, with %d times the rates %v", x.run, plate, was, times, now)
				}
			}
		}
	}
	if greater < 100 {
		t.Errorf("only with %d other rates more copies mixed", greater)
	}
}

// P6.21
func TestReadAgain(t *testing.T) {
	seen := map[int]int{}
	for _, x := range append(someRuns(400, small), someRuns(60, large)...) {
		for i, f := range x.run.Found {
			for plate, shows := range f.New {
				k := read(t, x.run, i, plate)
				if shows != api.CopyNot {
					if k != []int{api.Never, api.Surely}[shows] {
						t.Fatalf("%v: Read(%d, %d) = %d", x.run, i, plate, k)
					}
					continue
				}
				seen[k]++
				for as := range 2 {
					r := changed(x.run, func(r *api.CopyRun) { r.Found[i].New[plate] = as })
					if may := bears(k, as == 1); hasTruth(t, r) != may {
						t.Fatalf("%v: Read(%d, %d) = %d; there is a truth: %v", r, i, plate, k, !may)
					}
				}
			}
		}
	}
	if seen[api.Surely] < 50 || seen[api.Never] < 50 || seen[api.Perhaps] < 50 {
		t.Errorf("what cannot be read is new surely (1), never (2), perhaps (3): %v", seen)
	}
}
