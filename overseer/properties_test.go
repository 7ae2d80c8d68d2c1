package overseer_test

import (
	"fmt"
	"math/rand"
	"regexp"
	"slices"
	"strconv"
	"strings"
	"testing"

	"flong/api"
	"flong/checks"
	"flong/machines"
)

// expectEnds checks that two runs come to the same town and the same book.
func expectEnds(t *testing.T, town api.OverTown, some, others []string) {
	t.Helper()
	if one, other := run(t, town, some...), run(t, town, others...); !one.ends(other) {
		t.Fatalf("%v: Run of %q = %v; of %q %v", town, some, one, others, other)
	}
}

// readsAt returns how a line reads at last.
func readsAt(t *testing.T, x night, n int) string {
	t.Helper()
	return run(t, x.town, append(slices.Clone(x.lines), "reads "+strconv.Itoa(n))...).last()
}

// P12.3
func TestCorrected(t *testing.T) {
	entries, nots := 0, 0
	for _, x := range someNights(1500, 23) {
		end := run(t, x.town, x.lines...)
		for _, n := range entriesOf(x.lines) {
			reads, others, many := readsAt(t, x, n), slices.Clone(x.lines), 0
			for i, text := range x.lines {
				if of, ok := isCorrection(text); ok && of == n && end.answers[i] != "no" {
					others[i] = "sail"
					many++
				}
			}
			if many == 0 {
				continue
			}
			others[n] = reads
			if reads == "not" {
				others[n] = "sail"
				nots++
			} else {
				entries++
			}
			expectEnds(t, x.town, x.lines, others)
		}
	}
	if entries < 1000 || nots < 500 {
		t.Errorf("only %d lines read otherwise, and %d not at all", entries, nots)
	}
}

// P12.4
func TestTheBook(t *testing.T) {
	long, shorter := 0, 0
	for _, x := range someNights(2000, 24) {
		got := run(t, x.town, x.lines...)
		again := run(t, x.town, got.book...)
		if slices.ContainsFunc(again.answers, func(answer string) bool { return answer != "ok" }) || !got.ends(again) {
			t.Fatalf("%v: the book of %q is %q; Run of it = %v", x.town, x.lines, got.book, again)
		}
		if len(got.book) > 5 {
			long++
		}
		if len(got.book) < len(entriesOf(x.lines)) {
			shorter++
		}
	}
	if long < 250 || shorter < 1000 {
		t.Errorf("only %d books had many entries, and %d not all of them", long, shorter)
	}
}

// changesNothing reports whether a line is a question, a correction that was refused, or not clear.
func changesNothing(text, answer string) bool {
	_, corrects := isCorrection(text)
	return !entryForm.MatchString(text) && (!corrects || answer == "no")
}

// P12.5
func TestNothing(t *testing.T) {
	seen := map[string]int{}
	for _, x := range someNights(400, 24) {
		got, without := run(t, x.town, x.lines...), slices.Clone(x.lines)
		for n, text := range x.lines {
			if !changesNothing(text, got.answers[n]) {
				continue
			}
			first, _, _ := strings.Cut(text, " ")
			seen[first]++
			other := run(t, x.town, instead(x.lines, n, "sail")...)
			if other.answers[n] != "what" || !slices.Equal(instead(other.answers, n, ""), instead(got.answers, n, "")) || !got.ends(other) {
				t.Fatalf("%v: Run of %q = %v; without the line %d %v", x.town, x.lines, got, n, other)
			}
			without[n] = "sail"
		}
		expectEnds(t, x.town, x.lines, without)
	}
	for _, first := range strings.Fields("sure fewest told wait spare new worlds left test at reads line sail") {
		if seen[first] < 10 {
			t.Errorf("only %v", seen)
		}
	}
}

// someEntryOf returns the number of some line that is an entry as it was written; -1 if there is none.
func someEntryOf(r *rand.Rand, lines []string) int {
	if numbers := entriesOf(lines); len(numbers) > 0 {
		return numbers[r.Intn(len(numbers))]
	}
	return -1
}

func correction(r *rand.Rand, n int) string { return checks.SomeCorrection(r, strconv.Itoa(n)) }

// P12.6
func TestTheLastOneCounts(t *testing.T) {
	r := rand.New(rand.NewSource(6))
	twice, back := 0, 0
	for _, x := range someNights(3000, 20) {
		n := someEntryOf(r, x.lines)
		if n < 0 {
			continue
		}
		more := checks.SomeLines(r, r.Intn(3))
		one, other := correction(r, n), correction(r, n)
		expectEnds(t, x.town, slices.Concat(x.lines, []string{one}, calm(more), []string{other}), slices.Concat(x.lines, []string{"sail"}, calm(more), []string{other}))
		if one != other {
			twice++
		}
		// No line is corrected ahead of this, so all is again as it was written.
		calm := calm(x.lines)
		restored := append(slices.Clone(calm), one, fmt.Sprintf("line %d is %s", n, calm[n]))
		expectEnds(t, x.town, restored, calm)
		if !run(t, x.town, append(slices.Clone(calm), one)...).ends(run(t, x.town, calm...)) {
			back++
		}
	}
	if twice < 2000 || back < 1000 {
		t.Errorf("only %d lines were corrected twice, and %d to what was written", twice, back)
	}
}

// P12.7
func TestTwoCorrections(t *testing.T) {
	r := rand.New(rand.NewSource(7))
	seen := 0
	for _, x := range someNights(4000, 22) {
		n, m := someEntryOf(r, x.lines), someEntryOf(r, x.lines)
		if n == m {
			continue
		}
		one, other := correction(r, n), correction(r, m)
		expectEnds(t, x.town, append(slices.Clone(x.lines), one, other), append(slices.Clone(x.lines), other, one))
		seen++
	}
	if seen < 2000 {
		t.Errorf("only %d times two lines were corrected", seen)
	}
}

var turnsForm = regexp.MustCompile(`\Aok(?: \d+:(?:ok|no))*\z`)

// P12.8
func TestWhatIsSaid(t *testing.T) {
	r := rand.New(rand.NewSource(8))
	longer, shorter, same := 0, 0, 0
	for _, x := range someNights(3000, 22) {
		n := someEntryOf(r, x.lines)
		if n < 0 {
			continue
		}
		corrects := correction(r, n)
		corrected := night{x.town, append(slices.Clone(x.lines), corrects)}
		before, behind := run(t, x.town, x.lines...), run(t, x.town, corrected.lines...)
		said := behind.last()
		more := strings.Count(said, ":ok") - strings.Count(said, ":no")
		if !turnsForm.MatchString(said) || len(behind.book)-len(before.book) != more {
			t.Fatalf("%v: behind %q, %q is answered %q; the book is %q, and was %q", x.town, x.lines, corrects, said, behind.book, before.book)
		}
		switch {
		case more > 0:
			longer++
		case more < 0:
			shorter++
		default:
			same++
		}
		for _, i := range entriesOf(x.lines) {
			was, is := readsAt(t, x, i), readsAt(t, corrected, i)
			if i == n && corrects != fmt.Sprintf("line %d is %s", n, is) || i != n && is != was {
				t.Fatalf("%v: behind %q and %q the line %d reads %q, and was %q", x.town, x.lines, corrects, i, is, was)
			}
		}
	}
	if longer < 200 || shorter < 200 || same < 200 {
		t.Errorf("only %d books became longer, %d shorter, and %d neither", longer, shorter, same)
	}
}

// P12.9
func TestAsked(t *testing.T) {
	r := rand.New(rand.NewSource(9))
	asked, at := 0, 0
	for _, x := range someNights(1500, 23) {
		got := run(t, x.town, x.lines...)
		for n, text := range x.lines {
			if !questionForm.MatchString(text) {
				continue
			}
			if want := wantAnswer(run(t, x.town, x.lines[:n]...).after, text); got.answers[n] != want {
				t.Fatalf("%v: behind %q, %q is answered %q, want %q", x.town, x.lines[:n], text, got.answers[n], want)
			}
			asked++
		}
		calm, ask := calm(x.lines), checks.SomeQuestion(r)
		for n := range len(calm) + 1 {
			want := run(t, x.town, append(slices.Clone(calm[:n]), ask)...).last()
			if is := run(t, x.town, append(slices.Clone(calm), fmt.Sprintf("at %d %s", n, ask))...).last(); is != want {
				t.Fatalf("%v: behind %q, %q at %d is answered %q, want %q", x.town, calm, ask, n, is, want)
			}
			at++
		}
	}
	if asked < 1000 || at < 5000 {
		t.Errorf("only %d questions, and %d of other lines", asked, at)
	}
}

// P12.10
func TestHalves(t *testing.T) {
	looksBack := regexp.MustCompile(`\A(?:at|reads|line) `)
	seen := 0
	for _, x := range someNights(2000, 24) {
		cut := len(x.lines)
		for cut > 0 && !looksBack.MatchString(x.lines[cut-1]) {
			cut--
		}
		all := run(t, x.town, x.lines...)
		for ; cut < len(x.lines); cut++ {
			first := run(t, x.town, x.lines[:cut]...)
			second := run(t, first.after, x.lines[cut:]...)
			both := result{append(first.answers, second.answers...), second.after, append(first.book, second.book...)}
			if !slices.Equal(all.answers, both.answers) || !all.ends(both) {
				t.Fatalf("%v: Run of %q = %v; cut ahead of %d it is %v", x.town, x.lines, all, cut, both)
			}
			if cut > 0 && len(first.book) > 0 && len(second.book) > 0 {
				seen++
			}
		}
	}
	if seen < 500 {
		t.Errorf("only %d books were cut", seen)
	}
}

// P12.11
func TestBeside(t *testing.T) {
	r := rand.New(rand.NewSource(11))
	both, one := 0, 0
	for _, x := range someNights(3000, 22) {
		lines := calm(x.lines)
		for range 3 {
			n, pair := r.Intn(len(lines)+1), []string{checks.SomeHouseEntry(r), checks.SomeShopEntry(r)}
			some := run(t, x.town, slices.Insert(slices.Clone(lines), n, pair...)...)
			others := run(t, x.town, slices.Insert(slices.Clone(lines), n, pair[1], pair[0])...)
			if !checks.SameTown(some.after, others.after) || some.answers[n] != others.answers[n+1] || some.answers[n+1] != others.answers[n] {
				t.Fatalf("%v: with %q at %d of %q Run = %v; exchanged %v", x.town, pair, n, lines, some, others)
			}
			if some.answers[n] == "ok" && some.answers[n+1] == "ok" {
				both++
			} else if some.answers[n] != some.answers[n+1] {
				one++
			}
		}
	}
	if both < 500 || one < 500 {
		t.Errorf("only %d times both entries held, and %d times one", both, one)
	}
}

// misspelled returns some ways in which a clear line is not written.
func misspelled(text string) []string {
	var all []string
	for place := range len(text) + 1 {
		if place == 0 || place == len(text) || text[place] == ' ' {
			all = append(all, text[:place]+" "+text[place:])
		}
	}
	words := strings.Split(text, " ")
	for i, w := range words {
		digits, below := strings.CutPrefix(w, "-")
		if _, e := strconv.Atoi(w); e != nil {
			continue
		}
		for _, wrong := range []string{"0" + digits, "+" + digits, "0000000" + digits, digits + "0000000", digits + ".", digits + "_0"} {
			if below {
				wrong = "-" + wrong
			}
			all = append(all, strings.Join(instead(words, i, wrong), " "))
		}
		if w == "0" {
			all = append(all, strings.Join(instead(words, i, "-0"), " "))
		}
	}
	return all
}

// P12.12
func TestForm(t *testing.T) {
	seen := 0
	for _, x := range someNights(100, 12) {
		got := run(t, x.town, x.lines...)
		for n, text := range x.lines {
			if got.answers[n] == "what" {
				continue
			}
			for _, wrong := range misspelled(text) {
				other := run(t, x.town, instead(x.lines, n, wrong)...)
				if without := run(t, x.town, instead(x.lines, n, "sail")...); other.answers[n] != "what" || !other.ends(without) {
					t.Fatalf("%v: in %q, %q is answered %q", x.town, x.lines, wrong, other.answers[n])
				}
				seen++
			}
		}
	}
	if seen < 3000 {
		t.Errorf("only %d lines were not clear", seen)
	}
}

// hallOf returns the hall of a house, with some bores and pages.
func hallOf(r *rand.Rand, h api.TrainHouse) api.MachineHall {
	hall := api.MachineHall{House: h}
	differ := 1 + r.Intn(api.MaxMachineBores)
	for range h.Machines {
		hall.Bores = append(hall.Bores, r.Intn(differ))
	}
	for range api.MaxTrainEditions {
		var pages []int
		for page := range api.MaxMachinePages {
			if r.Intn(3) == 0 {
				pages = append(pages, page)
			}
		}
		hall.Editions = append(hall.Editions, pages)
	}
	return hall
}

// someSets returns sets of plates, and the greatest one that there is.
func someSets(r *rand.Rand, many int) [][]api.MachinePlate {
	sets := make([][]api.MachinePlate, many)
	for page := range api.MaxMachinePages {
		for bore := range api.MaxMachineBores {
			sets[0] = append(sets[0], checks.Plates(page, bore, api.MaxMachineMany)...)
			for i := range many - 1 {
				if r.Intn(2) == 0 {
					sets[i+1] = append(sets[i+1], checks.Plates(page, bore, 1+r.Intn(3))...)
				}
			}
		}
	}
	return sets
}

// P0.12
func TestTheBookAndThePlates(t *testing.T) {
	r := rand.New(rand.NewSource(12))
	sure, not, plates := 0, 0, 0
	for _, x := range someNights(700, 20) {
		got := run(t, x.town, append(slices.Clone(x.lines), "sure", "fewest", "told")...)
		answers := got.answers[len(x.lines):]
		hall := hallOf(r, got.after.House)
		set, e := machines.Set(hall)
		if (answers[0] == "1") != (e == api.OK) || answers[0] != "1" && (answers[0] != "0" || e != api.ErrNone) {
			t.Fatalf("%v: behind %q the answers are %q; Set = %v, %d", x.town, x.lines, answers, set, e)
		}
		if e == api.OK {
			lacks := checks.Must[[]int](t, hall)(machines.Lacks(hall, set))
			if len(lacks) > 0 || answers[1] != "0" || answers[2] != "nothing" {
				t.Fatalf("%v: behind %q the answers are %q; Set = %v lacks %v", x.town, x.lines, answers, set, lacks)
			}
			sure++
			plates += len(set)
			continue
		}
		for _, set := range someSets(r, 4) {
			if lacks := checks.Must[[]int](t, hall)(machines.Lacks(hall, set)); len(lacks) == 0 {
				t.Fatalf("%v: behind %q the house is not sure; %v is enough", x.town, x.lines, set)
			}
		}
		not++
	}
	if sure < 100 || not < 100 || plates < 200 {
		t.Errorf("only %d houses were sure, with %d plates, and %d not", sure, plates, not)
	}
}
