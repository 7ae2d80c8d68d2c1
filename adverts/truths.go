package adverts

import (
	"slices"

	"flong/api"
)

// ends returns the lines of the truth in which all are the fewest, and of that in which all are the most.
func (b book) ends() (fewest, most []int) {
	for _, s := range b.Lines {
		fewest = append(fewest, s.Low)
		most = append(most, s.High)
	}
	return fewest, most
}

// truths yields the lines of all truths.
func (b book) truths(yield func(lines []int) bool) {
	fewest, most := b.ends()
	lines := slices.Clone(fewest)
	for {
		if !yield(slices.Clone(lines)) {
			return
		}
		// The next truth has one line more of the first advertisement that can have more, and the fewest of those ahead of it.
		ad := 0
		for ad < len(lines) && lines[ad] == most[ad] {
			lines[ad] = fewest[ad]
			ad++
		}
		if ad == len(lines) {
			return
		}
		lines[ad]++
	}
}

// owed returns the least and the greatest bill. With more lines no bill is less: each billing with them is one with fewer lines, too, and costs no less with them.
func (b book) owed() api.Span {
	fewest, most := b.ends()
	return api.Span{Low: desk{b, fewest}.best().pence, High: desk{b, most}.best().pence}
}

// buy returns whether a contract is bought in truths.
func (b book) buy(contract int) int {
	some, all := false, true
	for lines := range b.truths {
		in := slices.Contains(desk{b, lines}.best().contracts, contract)
		some = some || in
		all = all && in
	}
	switch {
	case all:
		return api.Surely
	case some:
		return api.Perhaps
	}
	return api.Never
}

// measure returns the first one of the advertisements whose lines, if they are counted, leave the least at the worst. There must be one.
func (b book) measure() int {
	best := 0
	for ad := range b.Lines {
		if b.leaves(ad) < b.leaves(best) {
			best = ad
		}
	}
	return best
}

// leaves returns the greatest difference between both ends of what is owed when the lines of an advertisement are counted.
func (b book) leaves(ad int) int {
	greatest := 0
	for lines := b.Lines[ad].Low; lines <= b.Lines[ad].High; lines++ {
		owed := b.counted(ad, lines).owed()
		greatest = max(greatest, owed.High-owed.Low)
	}
	return greatest
}
