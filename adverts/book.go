package adverts

import (
	"cmp"
	"slices"

	"flong/api"
)

// book is a given book at work.
type book struct {
	api.AdBook
}

// What api has no name for: the days of a contract, and how much can be billed.
const (
	fewestDays = 1
	mostDays   = 7
	mostBilled = 20
)

// named returns the error of a call that names something, which may be right or wrong.
func (b book) named(right bool) api.Errno {
	if !b.valid() {
		return api.ErrAd
	}
	if !right {
		return api.ErrArg
	}
	return api.OK
}

func (b book) valid() bool {
	return len(b.Lines) <= api.MaxAds && !slices.ContainsFunc(b.Lines, invalidLines) &&
		b.validShown() &&
		between(b.Rate, 0, api.MaxAdRate) && between(b.Repeat, 0, b.Rate) &&
		len(b.Contracts) <= api.MaxAdContracts && !slices.ContainsFunc(b.Contracts, invalidContract)
}

func invalidLines(s api.Span) bool {
	return !between(s.Low, 0, s.High) || s.High > api.MaxAdLines
}

func (b book) validShown() bool {
	if len(b.Shown) > api.MaxAdShown {
		return false
	}
	for i, s := range b.Shown {
		if !b.hasAd(s.Ad) || !between(s.Day, 0, api.MaxAdDay) || !between(s.Edition, 0, api.MaxAdEditions-1) {
			return false
		}
		if slices.Contains(b.Shown[:i], s) {
			return false
		}
	}
	return true
}

func invalidContract(c api.AdContract) bool {
	return !between(c.From, 0, api.MaxAdDay) || !between(c.Days, fewestDays, mostDays) ||
		!between(c.Room, 0, api.MaxAdRoom) || !between(c.Pence, 0, api.MaxAdPence)
}

func between(n, least, most int) bool {
	return least <= n && n <= most
}

func (b book) hasAd(ad int) bool             { return between(ad, 0, len(b.Lines)-1) }
func (b book) hasContract(contract int) bool { return between(contract, 0, len(b.Contracts)-1) }

// hasLines reports whether numbers are lines of the advertisements, within those of the book or not.
func (b book) hasLines(lines []int) bool {
	wrong := func(n int) bool { return !between(n, 0, api.MaxAdLines) }
	return len(lines) == len(b.Lines) && !slices.ContainsFunc(lines, wrong)
}

// standings returns all standings, in order.
func (b book) standings() []api.AdDay {
	var standings []api.AdDay
	for _, s := range b.Shown {
		if standing := (api.AdDay{Ad: s.Ad, Day: s.Day}); !slices.Contains(standings, standing) {
			standings = append(standings, standing)
		}
	}
	slices.SortFunc(standings, func(one, other api.AdDay) int {
		return cmp.Or(cmp.Compare(one.Day, other.Day), cmp.Compare(one.Ad, other.Ad))
	})
	return standings
}

// stood reports whether an advertisement stood on a day in some edition.
func (b book) stood(ad, day int) bool {
	return slices.ContainsFunc(b.Shown, func(s api.AdShown) bool { return s.Ad == ad && s.Day == day })
}

// price returns what each line of a standing costs if it is single.
func (b book) price(s api.AdDay) int {
	if b.stood(s.Ad, s.Day-1) {
		return b.Repeat
	}
	return b.Rate
}

// without returns the book without a contract.
func (b book) without(contract int) book {
	b.Contracts = slices.Concat(b.Contracts[:contract], b.Contracts[contract+1:])
	return b
}

// counted returns the book with the lines of an advertisement counted.
func (b book) counted(ad, lines int) book {
	b.Lines = slices.Clone(b.Lines)
	b.Lines[ad] = api.Span{Low: lines, High: lines}
	return b
}
