package adverts_test

import (
	"slices"

	"flong/api"
	"flong/checks"
)

// What the chapter says, word by word: all lists of numbers are tried, in all truths.

func wantStood(b api.AdBook, ad, day int) bool {
	for edition := range 3 {
		if slices.Contains(b.Shown, api.AdShown{Ad: ad, Day: day, Edition: edition}) {
			return true
		}
	}
	return false
}

func wantStandings(b api.AdBook) []api.AdDay {
	var all []api.AdDay
	for day := range 14 {
		for ad := range b.Lines {
			if wantStood(b, ad, day) {
				all = append(all, api.AdDay{Ad: ad, Day: day})
			}
		}
	}
	return all
}

// wantCost returns what a list costs, and whether it is a billing with some lines.
func wantCost(b api.AdBook, lines, billing []int) (int, bool) {
	all := wantStandings(b)
	if len(billing) != len(all) {
		return 0, false
	}
	pence := 0
	for i, n := range billing {
		if n < -1 || n >= len(b.Contracts) {
			return 0, false
		}
		if s := all[i]; n == -1 && wantStood(b, s.Ad, s.Day-1) {
			pence += lines[s.Ad] * b.Repeat
		} else if n == -1 {
			pence += lines[s.Ad] * b.Rate
		}
	}
	for n, c := range b.Contracts {
		under, room := 0, c.Room
		for i, s := range all {
			if billing[i] == n {
				under++
				room -= lines[s.Ad]
				if s.Day < c.From || s.Day > c.From+c.Days-1 {
					return 0, false
				}
			}
		}
		if room < 0 {
			return 0, false
		}
		if under > 0 {
			pence += c.Pence
		}
	}
	return pence, true
}

// wantLists returns all lists of so many numbers from -1 to most, the least one first.
func wantLists(many, most int) [][]int {
	all := lists(nil)
	for range many {
		var longer [][]int
		for _, l := range all {
			for n := -1; n <= most; n++ {
				longer = append(longer, append(slices.Clone(l), n))
			}
		}
		all = longer
	}
	return all
}

// wantBest returns the first one of the best billings, and what it costs.
func wantBest(b api.AdBook, lines []int) ([]int, int) {
	var best []int
	fewest := -1
	for _, billing := range wantLists(len(wantStandings(b)), len(b.Contracts)-1) {
		if n, ok := wantCost(b, lines, billing); ok && (fewest < 0 || n < fewest) {
			best, fewest = billing, n
		}
	}
	return best, fewest
}

func wantBought(billing []int) []int {
	var all []int
	for n := range 3 {
		if slices.Contains(billing, n) {
			all = append(all, n)
		}
	}
	return all
}

func wantTruths(b api.AdBook) [][]int {
	all := lists(nil)
	for _, s := range b.Lines {
		var longer [][]int
		for _, l := range all {
			for n := s.Low; n <= s.High; n++ {
				longer = append(longer, append(slices.Clone(l), n))
			}
		}
		all = longer
	}
	return all
}

// billed is a truth with its first best billing.
type billed struct {
	lines, billing []int
	pence          int
}

func wantBilled(b api.AdBook) []billed {
	var all []billed
	for _, lines := range wantTruths(b) {
		billing, pence := wantBest(b, lines)
		all = append(all, billed{lines, billing, pence})
	}
	return all
}

func wantOwed(truths []billed) api.Span {
	s := span(truths[0].pence, truths[0].pence)
	for _, x := range truths {
		s = span(min(s.Low, x.pence), max(s.High, x.pence))
	}
	return s
}

func wantBuy(truths []billed, contract int) int {
	yes, no := false, false
	for _, x := range truths {
		if slices.Contains(x.billing, contract) {
			yes = true
		} else {
			no = true
		}
	}
	return checks.Known(yes, no)
}

// wantLeft returns how much an advertisement leaves at the worst when its lines are counted.
func wantLeft(b api.AdBook, truths []billed, ad int) int {
	worst := 0
	for n := b.Lines[ad].Low; n <= b.Lines[ad].High; n++ {
		var some []billed
		for _, x := range truths {
			if x.lines[ad] == n {
				some = append(some, x)
			}
		}
		s := wantOwed(some)
		worst = max(worst, s.High-s.Low)
	}
	return worst
}

func wantMeasure(b api.AdBook, truths []billed) int {
	var left []int
	for ad := range b.Lines {
		left = append(left, wantLeft(b, truths, ad))
	}
	return slices.Index(left, slices.Min(left))
}

func wantTwice(b api.AdBook, l []api.AdDay) []int {
	var all []int
	seen := map[api.AdDay]bool{}
	for i, s := range l {
		if seen[s] || !slices.Contains(wantStandings(b), s) {
			all = append(all, i)
		}
		seen[s] = true
	}
	return all
}

func wantMissing(b api.AdBook, l []api.AdDay) []api.AdDay {
	var all []api.AdDay
	for _, s := range wantStandings(b) {
		if !slices.Contains(l, s) {
			all = append(all, s)
		}
	}
	return all
}
