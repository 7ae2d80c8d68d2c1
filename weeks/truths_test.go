package weeks_test

import (
	"slices"

	"flong/api"
	"flong/checks"
)

// What the chapter says, word by word: each truth, each plan and each way to choose is looked at.

// truth is what was in the pot at first, and how many pounds are lost ahead of each night. What is lost on the last night makes no difference to anything.
type truth struct {
	tin, antimony int
	lost          []int
}

func truths(f api.WeekFoundry) []truth {
	losses := [][]int{nil}
	for night := range f.Nights {
		if night == 0 {
			losses = [][]int{{0}}
			continue
		}
		var longer [][]int
		dross := f.Nights[night-1].Dross
		for _, l := range losses {
			for gone := dross.Low; gone <= dross.High; gone++ {
				longer = append(longer, append(slices.Clone(l), l[night-1]+gone))
			}
		}
		losses = longer
	}
	var all []truth
	for tin := f.Shop.Pot.Tin.Low; tin <= f.Shop.Pot.Tin.High; tin++ {
		for antimony := f.Shop.Pot.Antimony.Low; antimony <= f.Shop.Pot.Antimony.High; antimony++ {
			for _, lost := range losses {
				all = append(all, truth{tin, antimony, lost})
			}
		}
	}
	return all
}

// melt is how many pounds of all, of tin and of antimony are in a pot.
type melt struct{ pounds, tin, antimony int }

// in returns what is in the pot on a night of a truth, with what was added up to then.
func in(f api.WeekFoundry, x truth, night int, added []int) melt {
	m := melt{f.Shop.Pot.Pounds - x.lost[night], x.tin - x.lost[night], x.antimony}
	for kind, n := range added {
		m.pounds += n * f.Shop.Pigs[kind].Pounds
		m.tin += n * f.Shop.Pigs[kind].Tin
		m.antimony += n * f.Shop.Pigs[kind].Antimony
	}
	return m
}

func kept(f api.WeekFoundry, m melt) bool {
	tin, antimony := f.Shop.TinPart, f.Shop.AntimonyPart
	return 1000*m.tin >= m.pounds*tin.Low && 1000*m.tin <= m.pounds*tin.High &&
		1000*m.antimony >= m.pounds*antimony.Low && 1000*m.antimony <= m.pounds*antimony.High
}

func penceOf(f api.WeekFoundry, added []int) int {
	pence := 0
	for kind, n := range added {
		pence += n * f.Shop.Pigs[kind].Pence
	}
	return pence
}

// upTo returns what was added by a plan up to a night, with this night.
func upTo(f api.WeekFoundry, plan [][]int, night int) []int {
	added := make([]int, len(f.Shop.Pigs))
	for _, add := range plan[:night+1] {
		added = plus(added, add)
	}
	return added
}

func plus(one, other []int) []int {
	sum := slices.Clone(one)
	for kind, n := range other {
		sum[kind] += n
	}
	return sum
}

// additions returns all lists of pigs that are there behind some that were added, ascending.
func additions(f api.WeekFoundry, added []int) [][]int {
	all := lists(nil)
	for kind, p := range f.Shop.Pigs {
		var longer [][]int
		for _, l := range all {
			for n := range p.Many - added[kind] + 1 {
				longer = append(longer, append(slices.Clone(l), n))
			}
		}
		all = longer
	}
	return all
}

// plans returns all plans of a foundry, ascending.
func plans(f api.WeekFoundry) [][][]int {
	all := [][][]int{nil}
	for night := range f.Nights {
		var longer [][][]int
		for _, plan := range all {
			added := make([]int, len(f.Shop.Pigs))
			if night > 0 {
				added = upTo(f, plan, night-1)
			}
			for _, add := range additions(f, added) {
				longer = append(longer, append(slices.Clone(plan), add))
			}
		}
		all = longer
	}
	inAll := truths(f)
	return slices.DeleteFunc(all, func(plan [][]int) bool { return !hasRoom(f, inAll, plan) })
}

func hasRoom(f api.WeekFoundry, truths []truth, plan [][]int) bool {
	for night := range plan {
		for _, x := range truths {
			if in(f, x, night, upTo(f, plan, night)).pounds > f.Shop.Room {
				return false
			}
		}
	}
	return true
}

// wants is what the calls with a plan must return.
type wants struct {
	pots  [][3]api.Span
	safe  int
	fails []int
}

// wanted looks at each night of each truth, with a plan.
func wanted(f api.WeekFoundry, truths []truth, plan [][]int) wants {
	var w wants
	yes, no := false, false
	bad := make([]bool, len(f.Nights))
	for i, x := range truths {
		good := true
		for night := range f.Nights {
			m := in(f, x, night, upTo(f, plan, night))
			if i == 0 {
				w.pots = append(w.pots, [3]api.Span{span(m.pounds, m.pounds), span(m.tin, m.tin), span(m.antimony, m.antimony)})
			}
			for part, n := range list(m.pounds, m.tin, m.antimony) {
				s := &w.pots[night][part]
				s.Low, s.High = min(s.Low, n), max(s.High, n)
			}
			if !kept(f, m) {
				good, bad[night] = false, true
			}
		}
		yes, no = yes || good, no || !good
	}
	for night := range bad {
		if bad[night] {
			w.fails = append(w.fails, night)
		}
	}
	w.safe = checks.Known(yes, no)
	return w
}

// safest is what the safe plans of a foundry come to, if there are any.
type safest struct {
	some        bool
	cheap, once int
	plan        [][]int
}

func wantSafest(f api.WeekFoundry) safest {
	best := safest{}
	inAll := truths(f)
	for _, plan := range plans(f) {
		if wanted(f, inAll, plan).safe != api.Surely {
			continue
		}
		pence, nights := 0, 0
		for _, add := range plan {
			pence += penceOf(f, add)
			if slices.ContainsFunc(add, func(n int) bool { return n > 0 }) {
				nights++
			}
		}
		// Plans come ascending, so the first one of several stays.
		if !best.some || pence < best.cheap {
			best.cheap, best.plan = pence, plan
		}
		if !best.some || nights < best.once {
			best.once = nights
		}
		best.some = true
	}
	return best
}

// wantKnown returns what the cheapest safe way to choose costs, and whether there is one.
func wantKnown(f api.WeekFoundry) (int, bool) {
	return ahead(f, 0, truths(f), make([]int, len(f.Shop.Pigs)))
}

// ahead returns what the pigs of all nights cost in the worst of some truths, which nothing that became known tells apart ahead of a night.
func ahead(f api.WeekFoundry, night int, truths []truth, added []int) (int, bool) {
	if night == len(f.Nights) {
		return penceOf(f, added), true
	}
	if f.Nights[night].Test == 0 {
		return choose(f, night, truths, added)
	}
	found := map[melt][]truth{}
	for _, x := range truths {
		m := in(f, x, night, added)
		found[m] = append(found[m], x)
	}
	worst := 0
	for _, alike := range found {
		pence, ok := choose(f, night, alike, added)
		if !ok {
			return 0, false
		}
		worst = max(worst, pence)
	}
	return worst, true
}

// choose returns it for the best choice on a night.
func choose(f api.WeekFoundry, night int, truths []truth, added []int) (int, bool) {
	best, some := 0, false
	for _, add := range additions(f, added) {
		then := plus(added, add)
		bad := func(x truth) bool {
			m := in(f, x, night, then)
			return m.pounds > f.Shop.Room || !kept(f, m)
		}
		if slices.ContainsFunc(truths, bad) {
			continue
		}
		if pence, ok := ahead(f, night+1, truths, then); ok && (!some || pence < best) {
			best, some = pence, true
		}
	}
	return best, some
}

// wantAsk returns the night ahead of which an analysis is best, and whether there is one.
func wantAsk(f api.WeekFoundry) (int, bool) {
	ask, least, some := 0, 0, false
	for night, n := range f.Nights {
		if n.Test == 1 {
			continue
		}
		if pence, ok := wantKnown(tested(f, night)); ok && (!some || pence < least) {
			ask, least, some = night, pence, true
		}
	}
	return ask, some
}
