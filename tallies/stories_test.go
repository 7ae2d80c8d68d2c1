package tallies_test

import (
	"slices"

	"flong/api"
	"flong/checks"
)

// What the chapter says, word by word: each list of tallies is looked at.

// wantTooSoon reports whether the minutes of two tallies of the same boy differ by too little.
func wantTooSoon(b api.TallyBook, one, other int) bool {
	x, y := b.Tallies[one], b.Tallies[other]
	apart := x.Minute - y.Minute
	if apart < 0 {
		apart = -apart
	}
	return x.Boy == y.Boy && apart < b.Walk[x.Machine]+b.Walk[y.Machine]
}

func wantTwice(b api.TallyBook, one, other int) bool {
	x, y := b.Tallies[one], b.Tallies[other]
	return x.Page == y.Page && x.Machine == y.Machine
}

// wantTooFew reports whether of some page and bore there are more of some tallies than there are plates in the Set.
func wantTooFew(b api.TallyBook, l []int) bool {
	for page := range api.MaxMachinePages {
		for bore := range api.MaxMachineBores {
			many := 0
			for _, i := range l {
				if x := b.Tallies[i]; x.Page == page && b.Hall.Bores[x.Machine] == bore {
					many++
				}
			}
			if many > checks.ManyOf(b.Set, page, bore) {
				return true
			}
		}
	}
	return false
}

func wantGood(b api.TallyBook, l []int) bool {
	for _, one := range l {
		for _, other := range l {
			if one != other && (wantTooSoon(b, one, other) || wantTwice(b, one, other)) {
				return false
			}
		}
	}
	return !wantTooFew(b, l)
}

// wantClash returns why two tallies, or one of them alone, cannot be true together; 0 if they can.
func wantClash(b api.TallyBook, one, other int) int {
	switch {
	case one != other && wantTooSoon(b, one, other):
		return api.TallyBoy
	case one != other && wantTwice(b, one, other):
		return api.TallyTwice
	case one != other && wantTooFew(b, list(one, other)) || wantTooFew(b, list(one)):
		return api.TallyPlates
	}
	return 0
}

// others returns all tallies of a book that are not in a list.
func others(b api.TallyBook, l []int) []int {
	var other []int
	for i := range b.Tallies {
		if !slices.Contains(l, i) {
			other = append(other, i)
		}
	}
	return other
}

// wantStories returns all stories, the least one first.
func wantStories(b api.TallyBook) [][]int {
	bad := func(l []int) bool { return !wantGood(b, others(b, l)) }
	all := slices.DeleteFunc(checks.Subsets(len(b.Tallies)), bad)
	slices.SortFunc(all, func(one, other []int) int {
		if d := len(one) - len(other); d != 0 {
			return d
		}
		return slices.Compare(one, other)
	})
	more := func(l []int) bool { return len(l) > len(all[0]) }
	return slices.DeleteFunc(slices.Clone(all), more)
}

// wantKnown returns what is known of something by some stories.
func wantKnown(stories [][]int, is func(story []int) bool) int {
	not := func(story []int) bool { return !is(story) }
	return checks.Known(slices.ContainsFunc(stories, is), slices.ContainsFunc(stories, not))
}

func wantLies(stories [][]int, tally int) int {
	return wantKnown(stories, func(story []int) bool { return slices.Contains(story, tally) })
}

func wantHonest(b api.TallyBook, stories [][]int, boy int) int {
	return wantKnown(stories, func(story []int) bool {
		for _, i := range story {
			if b.Tallies[i].Boy == boy {
				return false
			}
		}
		return true
	})
}

// wantAsk returns the tally of which to find out whether it is true.
func wantAsk(b api.TallyBook, stories [][]int) int {
	best, least := -1, len(stories)+1
	for i := range b.Tallies {
		has, not := 0, 0
		for _, story := range stories {
			if slices.Contains(story, i) {
				has++
			} else {
				not++
			}
		}
		if max(has, not) < least {
			best, least = i, max(has, not)
		}
	}
	return best
}

// wantPlates returns the least and the greatest number of plates of a page that were brought.
func wantPlates(b api.TallyBook, stories [][]int, page int) api.Span {
	var many []int
	for _, story := range stories {
		n := 0
		for _, i := range others(b, story) {
			if b.Tallies[i].Page == page {
				n++
			}
		}
		many = append(many, n)
	}
	return api.Span{Low: slices.Min(many), High: slices.Max(many)}
}

// wantLeft takes the plates of all tallies that are not in a story from the Set, one by one.
func wantLeft(b api.TallyBook, story []int) []api.MachinePlate {
	left := b.Set
	for _, i := range others(b, story) {
		page, bore := b.Tallies[i].Page, b.Hall.Bores[b.Tallies[i].Machine]
		left = checks.Put(left, page, bore, checks.ManyOf(left, page, bore)-1)
	}
	return left
}

func wantReady(b api.TallyBook, stories [][]int, machine, edition, minute int) int {
	return wantKnown(stories, func(story []int) bool {
		had := func(page int) bool {
			for _, i := range others(b, story) {
				if x := b.Tallies[i]; x.Machine == machine && x.Page == page && x.Minute <= minute {
					return true
				}
			}
			return false
		}
		for _, page := range b.Hall.Editions[edition] {
			if !had(page) {
				return false
			}
		}
		return true
	})
}
