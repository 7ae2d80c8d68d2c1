package tallies

import (
	"slices"

	"flong/api"
)

// story is which tallies are false, and which ones are true, both ascending.
type story struct {
	wrong, right []int
}

// tell returns what can be a story: those tallies are false whose bit is 1.
func (b book) tell(wrong int) story {
	var s story
	for tally := range b.Tallies {
		if wrong>>tally&1 == 1 {
			s.wrong = append(s.wrong, tally)
		} else {
			s.right = append(s.right, tally)
		}
	}
	return s
}

// stories returns all stories of a valid book, the least one first. There is always one, as without any tallies that are true nothing clashes.
func (b book) stories() []story {
	var stories []story
	fewest := len(b.Tallies)
	for wrong := range 1 << len(b.Tallies) {
		s := b.tell(wrong)
		if len(s.wrong) > fewest || !b.together(s.right...) {
			continue
		}
		if len(s.wrong) < fewest {
			stories, fewest = nil, len(s.wrong)
		}
		stories = append(stories, s)
	}
	slices.SortFunc(stories, func(one, other story) int { return slices.Compare(one.wrong, other.wrong) })
	return stories
}

// look returns all stories, or the error of a call that names something, which may be right or wrong.
func (b book) look(right bool) ([]story, api.Errno) {
	if e := b.named(right); e != api.OK {
		return nil, e
	}
	return b.stories(), api.OK
}

// in returns in how many of some stories something is so.
func in(stories []story, is func(s story) bool) int {
	many := 0
	for _, s := range stories {
		if is(s) {
			many++
		}
	}
	return many
}

// known returns what is known of something by all stories.
func known(stories []story, is func(s story) bool) int {
	switch in(stories, is) {
	case len(stories):
		return api.Surely
	case 0:
		return api.Never
	}
	return api.Perhaps
}

// ask returns the first tally of which the greater number of stories, of those that have it and those that have not, is the least.
func (b book) ask(stories []story) int {
	greater := func(tally int) int {
		with := in(stories, func(s story) bool { return slices.Contains(s.wrong, tally) })
		return max(with, len(stories)-with)
	}
	ask := 0
	for tally := range b.Tallies {
		if greater(tally) < greater(ask) {
			ask = tally
		}
	}
	return ask
}

// brought returns the least and the greatest number of plates of a page that were brought, over all stories.
func (b book) brought(stories []story, page int) api.Span {
	over := api.Span{Low: len(b.Tallies)}
	for _, s := range stories {
		many := 0
		for _, tally := range s.right {
			if b.Tallies[tally].Page == page {
				many++
			}
		}
		over.Low, over.High = min(over.Low, many), max(over.High, many)
	}
	return over
}

// left returns the plates of the Set that were not brought in a story.
func (b book) left(s story) []api.MachinePlate {
	many := b.poured()
	for _, tally := range s.right {
		many[b.plate(tally)]--
	}
	var left []api.MachinePlate
	for _, p := range b.Set {
		p.Many = many[plate{p.Page, p.Bore}]
		if p.Many > 0 {
			left = append(left, p)
		}
	}
	return left
}

// ready reports whether in a story a machine had all plates of an edition at a minute.
func (b book) ready(s story, machine, edition, minute int) bool {
	for _, page := range b.Hall.Editions[edition] {
		if !b.had(s, machine, b.fitting(page, machine), minute) {
			return false
		}
	}
	return true
}

// had reports whether in a story a machine had a plate at a minute.
func (b book) had(s story, machine int, p plate, minute int) bool {
	return slices.ContainsFunc(s.right, func(tally int) bool {
		t := b.Tallies[tally]
		return t.Machine == machine && b.plate(tally) == p && t.Minute <= minute
	})
}
