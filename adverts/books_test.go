package adverts_test

import (
	"math/rand"
	"slices"

	"flong/api"
)

func list(l ...int) []int { return l }

func lists(l ...[]int) [][]int { return l }

func span(low, high int) api.Span { return api.Span{Low: low, High: high} }

// shown has threes of numbers, in the order of the chapter's examples: ad, day, edition.
func shown(l ...int) []api.AdShown {
	var all []api.AdShown
	for three := range slices.Chunk(l, 3) {
		all = append(all, api.AdShown{Ad: three[0], Day: three[1], Edition: three[2]})
	}
	return all
}

// contract is in the order of the chapter's examples: from, days, room, pence.
func contract(from, days, room, pence int) api.AdContract {
	return api.AdContract{From: from, Days: days, Room: room, Pence: pence}
}

// days has pairs of numbers: ad, day.
func days(l ...int) []api.AdDay {
	var all []api.AdDay
	for pair := range slices.Chunk(l, 2) {
		all = append(all, api.AdDay{Ad: pair[0], Day: pair[1]})
	}
	return all
}

// bookB is B of the chapter's examples.
func bookB() api.AdBook {
	return api.AdBook{
		Lines: []api.Span{span(2, 3), span(4, 4)}, Shown: shown(0, 1, 0, 0, 1, 2, 0, 2, 0, 1, 2, 0, 1, 5, 1), Rate: 3, Repeat: 2,
		Contracts: []api.AdContract{contract(1, 2, 8, 15), contract(2, 7, 20, 20)},
	}
}

// largest has as much as a book can have of all; all its standings can be under each of its contracts.
func largest() api.AdBook {
	return api.AdBook{
		Lines: slices.Repeat([]api.Span{span(0, 9)}, 3), Shown: shown(0, 13, 2, 1, 13, 2, 2, 13, 2, 2, 12, 0, 1, 11, 0, 0, 7, 0), Rate: 9, Repeat: 9,
		Contracts: slices.Repeat([]api.AdContract{contract(7, 7, 99, 99)}, 3),
	}
}

// single is a book with one advertisement of so many lines, shown on some days, and with some contracts.
func single(lines api.Span, on []int, contracts ...api.AdContract) api.AdBook {
	b := api.AdBook{Lines: []api.Span{lines}, Rate: 3, Repeat: 2, Contracts: contracts}
	for _, day := range on {
		b.Shown = append(b.Shown, shown(0, day, 0)...)
	}
	return b
}

func withB(change func(b *api.AdBook)) api.AdBook { return changed(bookB(), change) }

// changed returns a copy of a book with something changed; it shares no memory with this one.
func changed(b api.AdBook, change func(b *api.AdBook)) api.AdBook {
	b.Lines, b.Shown, b.Contracts = slices.Clone(b.Lines), slices.Clone(b.Shown), slices.Clone(b.Contracts)
	change(&b)
	return b
}

// counted returns a book with the lines of an advertisement counted.
func counted(b api.AdBook, ad, lines int) api.AdBook {
	return changed(b, func(b *api.AdBook) { b.Lines[ad] = span(lines, lines) })
}

// without returns a book without a contract.
func without(b api.AdBook, contract int) api.AdBook {
	return changed(b, func(b *api.AdBook) { b.Contracts = slices.Delete(b.Contracts, contract, contract+1) })
}

// someBooks returns valid books of all sorts with at most so many elements of Shown, the same at each call.
func someBooks(many, most int) []api.AdBook {
	r := rand.New(rand.NewSource(8))
	books := []api.AdBook{bookB(), {}, {Lines: []api.Span{span(0, 9)}}, {Contracts: []api.AdContract{contract(0, 1, 0, 0)}}}
	for len(books) < many {
		books = append(books, someBook(r, most))
	}
	return books
}

// someBook returns a book with advertisements that are long or short, on days that are close together or not, and contracts of which most are about as dear as what they are for.
func someBook(r *rand.Rand, most int) api.AdBook {
	b := api.AdBook{Rate: r.Intn([]int{3, 10}[r.Intn(2)])}
	b.Repeat = r.Intn(b.Rate + 1)
	long, wide, late := []int{3, 7, 10}[r.Intn(3)], []int{1, 2, 4, 10}[r.Intn(4)], []int{2, 4, 8, 14}[r.Intn(4)]
	for range []int{1, 2, 2, 3, 3, 3}[r.Intn(6)] {
		low := r.Intn(long)
		b.Lines = append(b.Lines, span(low, min(low+r.Intn(wide), 9)))
	}
	first := r.Intn(15 - late)
	for range most - r.Intn(4)*r.Intn(2) {
		s := api.AdShown{Ad: r.Intn(len(b.Lines)), Day: first + r.Intn(late), Edition: r.Intn(3)}
		if !slices.Contains(b.Shown, s) {
			b.Shown = append(b.Shown, s)
		}
	}
	for range r.Intn(4) {
		b.Contracts = append(b.Contracts, someContract(r, b, first+r.Intn(late)))
	}
	return b
}

// someContract returns a contract from some day on, or a little earlier, whose Room and Pence are close to what is for it.
func someContract(r *rand.Rand, b api.AdBook, from int) api.AdContract {
	c := contract(max(0, from-r.Intn(3)), 1+r.Intn(7), 0, 0)
	for _, s := range wantStandings(b) {
		if s.Day >= c.From && s.Day < c.From+c.Days {
			lines := b.Lines[s.Ad].Low + r.Intn(3)
			c.Room += lines
			c.Pence += lines * b.Rate
		}
	}
	c.Room = max(0, min(c.Room-r.Intn(4)*r.Intn(3)+r.Intn(3), 99))
	c.Pence = min(c.Pence*(2+r.Intn(6))/8+r.Intn(3), 99)
	return c
}

// someLines returns some lines of the advertisements of a book, within those of the book and not.
func someLines(r *rand.Rand, b api.AdBook) [][]int {
	var all [][]int
	for range 3 {
		in, out := make([]int, len(b.Lines)), make([]int, len(b.Lines))
		for ad, s := range b.Lines {
			in[ad], out[ad] = s.Low+r.Intn(s.High-s.Low+1), r.Intn(10)
		}
		all = append(all, in, out)
	}
	return all
}
