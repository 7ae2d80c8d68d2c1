package overseer_test

import (
	"math/rand"
	"slices"
	"strconv"
	"strings"
	"testing"

	"flong/api"
	"flong/checks"
	"flong/overseer"
)

// town is the one of the chapter's examples.
func town() api.OverTown { return checks.Town() }

func withTown(change func(t *api.OverTown)) api.OverTown { return changed(town(), change) }

// changed returns a copy of a town with something changed.
func changed(t api.OverTown, change func(t *api.OverTown)) api.OverTown {
	t = checks.CopyTown(t)
	change(&t)
	return t
}

// bare is a town with a machine, and nothing else.
func bare() api.OverTown {
	return api.OverTown{House: api.TrainHouse{Machines: []api.TrainMachine{{Pace: 1}}}, Shop: api.FlongShop{Fresh: 1}}
}

// full has as much as a town can have of all.
func full() api.OverTown {
	return api.OverTown{
		House: api.TrainHouse{
			Machines: slices.Repeat([]api.TrainMachine{{Ready: 99, Pace: 9, Stops: 1}}, 3), Bundles: slices.Repeat([]api.TrainBundle{{Train: 3, Hundreds: 9, Edition: 3}}, 5),
			Trains: []int{99, 99, 99, 99}, Change: 9,
		},
		Shop: api.FlongShop{
			Moulds: slices.Repeat([]api.FlongMould{{Page: 2, Used: 12}}, 5), Worlds: slices.Repeat([][]int{{12, 12, 12, 12, 12}}, 6), Wants: []int{12, 12, 12}, Fresh: 12,
		},
	}
}

// lines are written with a slash between each two of them.
func lines(text string) []string { return strings.Split(text, "/") }

// result is what Run returned.
type result struct {
	answers []string
	after   api.OverTown
	book    []string
}

// run does lines that Run must do.
func run(t *testing.T, town api.OverTown, lines ...string) result {
	t.Helper()
	answers, after, book, e := overseer.Run(town, lines)
	if e != api.OK || len(answers) != len(lines) {
		t.Fatalf("Run of %v with %q = %q, %d", town, lines, answers, e)
	}
	return result{answers, after, book}
}

// last returns the last answer.
func (r result) last() string { return r.answers[len(r.answers)-1] }

// ends reports whether two results have the same town and the same book.
func (r result) ends(other result) bool {
	return checks.SameTown(r.after, other.after) && slices.Equal(r.book, other.book)
}

// night is a town and lines.
type night struct {
	town  api.OverTown
	lines []string
}

// someNights returns nights of all sorts, with so many lines at the most, the same at each call.
func someNights(many, most int) []night {
	r := rand.New(rand.NewSource(12))
	nights := []night{{town(), nil}, {bare(), lines("sure/told/worlds/train 5/bundle 0 5 0/told")}, {full(), lines("cast 0/gap 8/train 0")}}
	for len(nights) < many {
		nights = append(nights, night{someTown(r), checks.SomeLines(r, 1+r.Intn(most))})
	}
	return nights
}

// someTown is sometimes one of which later lines need what earlier ones bring: trains, or moulds that are whole.
func someTown(r *rand.Rand) api.OverTown {
	switch r.Intn(4) {
	case 0:
		return town()
	case 1:
		return changed(checks.SomeTown(r, 0), func(t *api.OverTown) {
			t.House.Trains = nil
			for i := range t.Shop.Moulds {
				t.Shop.Moulds[i].Used = api.MaxFlongCasts - r.Intn(3)
			}
		})
	}
	return checks.SomeTown(r, 3)
}

// entriesOf returns the numbers of all lines that are entries as they were written.
func entriesOf(lines []string) []int {
	var numbers []int
	for n, text := range lines {
		if entryForm.MatchString(text) {
			numbers = append(numbers, n)
		}
	}
	return numbers
}

// isCorrection reports whether a line is a correction, and of which line.
func isCorrection(text string) (int, bool) {
	parts := correctionForm.FindStringSubmatch(text)
	if parts == nil {
		return 0, false
	}
	n, e := strconv.Atoi(parts[1])
	return n, e == nil
}

// instead returns lines with another one in the place of one of them.
func instead(lines []string, n int, text string) []string {
	lines = slices.Clone(lines)
	lines[n] = text
	return lines
}

// calm returns lines in which those that correct something are not clear.
func calm(lines []string) []string {
	lines = slices.Clone(lines)
	for n, text := range lines {
		if _, ok := isCorrection(text); ok {
			lines[n] = "sail"
		}
	}
	return lines
}
