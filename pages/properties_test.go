package pages_test

import (
	"math/rand"
	"slices"
	"testing"

	"flong/api"
	"flong/checks"
	"flong/metal"
	"flong/pages"
)

// lockable returns frames of all sorts whose page can be locked.
func lockable(many, pieces, strips int) []api.PageFrame {
	return slices.DeleteFunc(someFrames(many, pieces, strips), func(f api.PageFrame) bool {
		_, e := pages.Strips(f)
		return e != api.OK
	})
}

// someSets returns some sets of strips of a frame, at most about twenty.
func someSets(f api.PageFrame) [][]int {
	all := allSets(f)
	var some [][]int
	for n := 0; n < len(all); n += 1 + len(all)/20 {
		some = append(some, all[n])
	}
	return some
}

// layoutLocks asks Fits whether a layout locks the page.
func layoutLocks(t *testing.T, f api.PageFrame, layout [][]int) bool {
	t.Helper()
	for column, set := range layout {
		if checks.Must[int](t, f)(pages.Fits(f, column, set)) != api.Surely {
			return false
		}
	}
	return len(layout) == len(f.Columns) && enough(f, layout)
}

func checkNotGreater(t *testing.T, what string, now, was api.PageFrame) {
	t.Helper()
	n, e := pages.Strips(now)
	before, f := pages.Strips(was)
	if !checks.NotGreater(n, e, before, f) {
		t.Errorf("%s: %v: Strips = %d, %d; of %v = %d, %d", what, now, n, e, was, before, f)
	}
	n, e = pages.Lost(now)
	before, f = pages.Lost(was)
	if !checks.NotGreater(n, e, before, f) {
		t.Errorf("%s: %v: Lost = %d, %d; of %v = %d, %d", what, now, n, e, was, before, f)
	}
}

// P3.13
func TestEachTruth(t *testing.T) {
	for _, f := range someFrames(700, 6, 4) {
		all := truths(f)
		for column := range f.Columns {
			height := checks.Must[api.Span](t, f)(pages.Column(f, column))
			for _, truth := range all {
				if n := highIn(f, column, truth); n < height.Low || n > height.High {
					t.Fatalf("%v: Column(%d) = %v, in %v %d", f, column, height, truth, n)
				}
			}
			for _, set := range someSets(f) {
				fits := checks.Must[int](t, f)(pages.Fits(f, column, set))
				for _, truth := range all {
					if is := lockedIn(f, column, points(f, set), truth); fits == api.Surely && !is || fits == api.Never && is {
						t.Fatalf("%v: Fits(%d, %v) = %d, in %v %v", f, column, set, fits, truth, is)
					}
				}
			}
		}
		checkGaps(t, f, all)
	}
}

func checkGaps(t *testing.T, f api.PageFrame, all [][]int) {
	t.Helper()
	for one := range f.Pieces {
		for other := range f.Pieces {
			gap := checks.Must[api.Span](t, f)(pages.Gap(f, one, other))
			for _, truth := range all {
				if n := topIn(f, other, truth) - topIn(f, one, truth); n < gap.Low || n > gap.High {
					t.Fatalf("%v: Gap(%d, %d) = %v, in %v %d", f, one, other, gap, truth, n)
				}
			}
		}
	}
}

// P3.14
func TestTheRoom(t *testing.T) {
	locked := 0
	for _, f := range someFrames(1500, 6, 4) {
		for column := range f.Columns {
			room, e := pages.Room(f, column)
			for _, set := range allSets(f) {
				n := points(f, set)
				within := e == api.OK && room.Low <= n && n <= room.High
				if fits := checks.Must[int](t, f)(pages.Fits(f, column, set)); (fits == api.Surely) != within {
					t.Fatalf("%v: Room(%d) = %v, %d; Fits(%v) = %d", f, column, room, e, set, fits)
				}
				if within {
					locked++
				}
			}
		}
	}
	if locked < 1000 {
		t.Errorf("only %d columns were locked", locked)
	}
}

// P3.15
func TestTheLayout(t *testing.T) {
	several := 0
	for _, f := range lockable(2000, 6, 3) {
		layout := checks.Must[[][]int](t, f)(pages.Lock(f))
		n := checks.Must[int](t, f)(pages.Strips(f))
		if !layoutLocks(t, f, layout) || count(layout) != n {
			t.Fatalf("%v: Lock = %v; Strips = %d", f, layout, n)
		}
		all := locking(f)
		for _, other := range all {
			if count(other) < n {
				t.Fatalf("%v: Strips = %d; %v locks it, too", f, n, other)
			}
		}
		if len(all) > 1 {
			several++
		}
	}
	if several < 200 {
		t.Errorf("only %d pages could be locked by several layouts", several)
	}
	for _, f := range someFrames(2000, 6, 3) {
		_, e := pages.Lock(f)
		if _, g := pages.Strips(f); e != g || (e == api.OK) != (len(locking(f)) > 0) {
			t.Fatalf("%v: Lock: %d; Strips: %d", f, e, g)
		}
	}
}

// P3.16
func TestClearer(t *testing.T) {
	r := rand.New(rand.NewSource(16))
	for _, f := range someFrames(2000, 6, 3) {
		if len(f.Pieces) == 0 {
			continue
		}
		clearer := changed(f, func(f *api.PageFrame) {
			h := &f.Pieces[r.Intn(len(f.Pieces))].Height
			h.Low += r.Intn(h.High - h.Low + 1)
			h.High -= r.Intn(h.High - h.Low + 1)
		})
		checkNotGreater(t, "clearer", clearer, f)
		for column := range f.Columns {
			for _, set := range someSets(f) {
				was := checks.Must[int](t, f)(pages.Fits(f, column, set))
				if now := checks.Must[int](t, clearer)(pages.Fits(clearer, column, set)); was != api.Perhaps && now != was {
					t.Fatalf("%v: Fits(%d, %v) = %d; of %v it was %d", clearer, column, set, now, f, was)
				}
			}
		}
		for one := range f.Pieces {
			for other := range f.Pieces {
				was, now := checks.Must[api.Span](t, f)(pages.Gap(f, one, other)), checks.Must[api.Span](t, clearer)(pages.Gap(clearer, one, other))
				if now.Low < was.Low || now.High > was.High {
					t.Fatalf("%v: Gap(%d, %d) = %v; of %v it was %v", clearer, one, other, now, f, was)
				}
			}
		}
	}
}

// P3.17
func TestMore(t *testing.T) {
	for _, f := range someFrames(1500, 6, 4) {
		for kind, s := range f.Strips {
			if s.Many < api.MaxPageMany {
				checkNotGreater(t, "one more strip", changed(f, func(f *api.PageFrame) { f.Strips[kind].Many++ }), f)
			}
		}
		if f.Slack < api.MaxPageSlack {
			checkNotGreater(t, "more slack", changed(f, func(f *api.PageFrame) { f.Slack++ }), f)
		}
	}
}

// P3.18
func TestWhatIsRefused(t *testing.T) {
	some := 0
	for _, f := range someFrames(1500, 6, 3) {
		out, e := pages.Refuse(f)
		lost, g := pages.Lost(f)
		if e != g || e == api.OK && lost != pence(f, out) {
			t.Fatalf("%v: Refuse = %v, %d; Lost = %d, %d", f, out, e, lost, g)
		}
		if e == api.OK {
			checks.Must[int](t, f)(pages.Strips(without(f, out)))
		}
		if len(out) > 0 {
			some++
		}
		for _, other := range choices(f) {
			if e == api.OK && pence(f, other) >= lost {
				continue
			}
			if _, g := pages.Strips(without(f, other)); g != api.ErrNone {
				t.Fatalf("%v: Refuse = %v, %d; Lost = %d; without %v it can be locked", f, out, e, lost, other)
			}
		}
	}
	if some < 100 {
		t.Errorf("only of %d frames pieces were refused", some)
	}
}

// P3.19
func TestOneMorePiece(t *testing.T) {
	r := rand.New(rand.NewSource(19))
	seen := map[bool]int{}
	for _, f := range someFrames(2000, 5, 4) {
		_, e := pages.Strips(f)
		for column := range f.Columns {
			low := r.Intn(8)
			p := piece(low, low+r.Intn(3), r.Intn(100))
			takes := checks.Must[bool](t, f)(pages.Takes(f, column, p))
			if _, g := pages.Lock(withPiece(f, column, p)); takes != (g == api.OK) {
				t.Fatalf("%v: Takes(%d, %v) = %v; Lock of it: %d", f, column, p, takes, g)
			}
			seen[takes]++
			if same := checks.Must[bool](t, f)(pages.Takes(f, column, piece(0, 0, r.Intn(100)))); same != (e == api.OK) {
				t.Fatalf("%v: Takes(%d) of no height = %v; Strips: %d", f, column, same, e)
			}
		}
	}
	if seen[true] < 200 || seen[false] < 200 {
		t.Errorf("only %v pieces were taken or not", seen)
	}
}

// P3.20
func TestTops(t *testing.T) {
	for _, f := range someFrames(2000, 6, 1) {
		for one := range f.Pieces {
			for other := range f.Pieces {
				gap, turned := checks.Must[api.Span](t, f)(pages.Gap(f, one, other)), checks.Must[api.Span](t, f)(pages.Gap(f, other, one))
				meets, back := checks.Must[int](t, f)(pages.Meets(f, one, other)), checks.Must[int](t, f)(pages.Meets(f, other, one))
				if turned != span(-gap.High, -gap.Low) || gap.Low > gap.High || meets != back {
					t.Fatalf("%v: Gap(%d, %d) = %v, turned %v; Meets = %d, turned %d", f, one, other, gap, turned, meets, back)
				}
				if one == other && (gap != api.Span{} || meets != api.Surely) {
					t.Fatalf("%v: Gap(%d, %d) = %v; Meets = %d", f, one, other, gap, meets)
				}
			}
		}
	}
}

// P3.21
func TestAnyOrder(t *testing.T) {
	r := rand.New(rand.NewSource(21))
	for _, f := range someFrames(2000, 6, 4) {
		turned := changed(f, func(f *api.PageFrame) {
			r.Shuffle(len(f.Columns), func(i, j int) { f.Columns[i], f.Columns[j] = f.Columns[j], f.Columns[i] })
		})
		n, e1 := pages.Strips(f)
		m, e2 := pages.Strips(turned)
		lost, e3 := pages.Lost(f)
		less, e4 := pages.Lost(turned)
		if n != m || e1 != e2 || lost != less || e3 != e4 {
			t.Fatalf("%v: Strips = %d, %d; turned %d, %d; Lost = %d, %d; turned %d, %d", f, n, e1, m, e2, lost, e3, less, e4)
		}
		for one := range f.Pieces {
			for other := range f.Pieces {
				if gap, back := checks.Must[api.Span](t, f)(pages.Gap(f, one, other)), checks.Must[api.Span](t, turned)(pages.Gap(turned, one, other)); gap != back {
					t.Fatalf("%v: Gap(%d, %d) = %v; turned %v", f, one, other, gap, back)
				}
			}
		}
	}
}

// P3.22
func TestHowFar(t *testing.T) {
	grown := 0
	for _, f := range someFrames(2000, 6, 4) {
		for i, p := range f.Pieces {
			high, e := pages.Grow(f, i)
			if e == api.OK {
				grown++
				checks.Must[int](t, f)(pages.Strips(withHigh(f, i, high)))
				if high < p.Height.Low || high > api.MaxPageHeight {
					t.Fatalf("%v: Grow(%d) = %d", f, i, high)
				}
			} else {
				high = p.Height.Low - 1
			}
			for more := high + 1; more <= api.MaxPageHeight; more++ {
				if _, g := pages.Strips(withHigh(f, i, more)); g != api.ErrNone {
					t.Fatalf("%v: Grow(%d) = %d, %d; with %d it can be locked", f, i, high, e, more)
				}
			}
		}
	}
	if grown < 500 {
		t.Errorf("only %d pieces could be locked", grown)
	}
}

// P0.1
func TestTheStripsThatAreMelted(t *testing.T) {
	shop := api.MetalShop{
		Pot: api.MetalPot{Pounds: 200, Tin: span(6, 8), Antimony: span(28, 30)}, Room: 300, TinPart: span(40, 60), AntimonyPart: span(120, 160),
		Pigs: []api.MetalPig{{Pounds: 10, Tin: 5, Pence: 30, Many: 3}, {Pounds: 20, Tin: 1, Antimony: 6, Pence: 25, Many: 2}, {Pounds: 25, Pence: 5, Many: 2}},
	}
	seen := map[bool]int{}
	for _, f := range lockable(600, 6, 4) {
		n := count(checks.Must[[][]int](t, f)(pages.Lock(f)))
		for _, room := range []int{259, 300} {
			shop.Room = room
			// Of Lead of these 4 to 53, 7 to 23, 0 to 3, as far as there is room, and none are asked.
			for _, add := range lists(list(1, 1, 0), list(1, 0, 0), list(1, 1, 1), list(1, 1, 2), list(0, 0, 0)) {
				pot, e := metal.After(shop, add)
				if e != api.OK || pot.Pounds+n > room {
					continue
				}
				lead, e := metal.Lead(shop, add)
				within := e == api.OK && lead.Low <= n && n <= lead.High
				melted := shop
				melted.Pot, melted.Pigs = pot, nil
				melted.Pot.Pounds += n
				if safe := checks.Must[int](t, melted)(metal.Safe(melted, nil)); (safe == api.Surely) != within {
					t.Fatalf("%v, %v: %d strips; Lead = %v, %d; Safe = %d", shop, add, n, lead, e, safe)
				}
				seen[within]++
			}
		}
	}
	if seen[true] < 100 || seen[false] < 100 {
		t.Errorf("only %v were safe or not", seen)
	}
}
