package overseer_test

import (
	"math"
	"math/rand"
	"slices"
	"strings"
	"testing"

	"flong/api"
	"flong/checks"
	"flong/overseer"
)

const most, least = math.MaxInt, math.MinInt

func ran(t api.OverTown, lines []string) checks.Answer {
	answers, after, book, e := overseer.Run(t, lines)
	return checks.Said("Run", e, len(answers)+len(book) == 0 && checks.SameTown(after, api.OverTown{}))
}

// P12.1
func TestCheckValid(t *testing.T) {
	for i, x := range []api.OverTown{
		town(), bare(), full(),
		withTown(func(t *api.OverTown) { t.House.Trains[0] = 0 }), withTown(func(t *api.OverTown) { t.House.Bundles, t.House.Trains = nil, nil }),
		withTown(func(t *api.OverTown) { t.House.Machines[1].Stops = 1 }), withTown(func(t *api.OverTown) { t.Shop.Worlds = nil }),
		withTown(func(t *api.OverTown) { t.Shop.Moulds[0].Used = 12 }), withTown(func(t *api.OverTown) { t.Shop.Wants = append(t.Shop.Wants, 0) }),
		{House: bare().House, Shop: full().Shop}, {House: full().House, Shop: bare().Shop},
	} {
		if e := overseer.Check(x); e != api.OK {
			t.Errorf("%d: Check(%v) = %d", i, x, e)
		}
	}
}

// invalid has towns that are not valid, each by one number or one length.
func invalid() []api.OverTown {
	var towns []api.OverTown
	add := func(change func(t *api.OverTown, n int), numbers ...int) {
		for _, n := range numbers {
			towns = append(towns, withTown(func(t *api.OverTown) { change(t, n) }))
		}
	}
	for i := range town().House.Machines {
		add(func(t *api.OverTown, n int) { t.House.Machines[i].Ready = n }, -1, 100, most, least)
		add(func(t *api.OverTown, n int) { t.House.Machines[i].Pace = n }, 0, 10, most, least)
		add(func(t *api.OverTown, n int) { t.House.Machines[i].Stops = n }, -1, 2)
	}
	for i := range town().House.Bundles {
		add(func(t *api.OverTown, n int) { t.House.Bundles[i].Train = n }, -1, 2, most)
		add(func(t *api.OverTown, n int) { t.House.Bundles[i].Hundreds = n }, 0, 10)
		add(func(t *api.OverTown, n int) { t.House.Bundles[i].Edition = n }, -1, 4)
	}
	for i := range town().Shop.Moulds {
		add(func(t *api.OverTown, n int) { t.Shop.Moulds[i].Page = n }, -1, 2, most)
		add(func(t *api.OverTown, n int) { t.Shop.Moulds[i].Used = n }, -1, 13)
		add(func(t *api.OverTown, n int) { t.Shop.Moulds[i].Broke = n }, -1, 2)
		add(func(t *api.OverTown, n int) { t.Shop.Worlds[i][n] = 13 }, 0, 3)
		add(func(t *api.OverTown, n int) { t.Shop.Worlds[i] = make([]int, n) }, 0, 3, 5)
	}
	add(func(t *api.OverTown, n int) { t.House.Machines = make([]api.TrainMachine, n) }, 0, 4, 1000)
	add(func(t *api.OverTown, n int) { t.House.Machines = slices.Repeat(t.House.Machines, n) }, 0, 2, 1000)
	add(func(t *api.OverTown, n int) { t.House.Bundles = slices.Repeat(t.House.Bundles, n) }, 2, 1000)
	add(func(t *api.OverTown, n int) { t.House.Trains = make([]int, n) }, 0, 1, 5, 1000)
	add(func(t *api.OverTown, n int) { t.House.Trains[n] = -1 }, 0, 1)
	add(func(t *api.OverTown, n int) { t.House.Trains[n] = 100 }, 0, 1)
	add(func(t *api.OverTown, n int) { t.House.Change = n }, -1, 10, most, least)
	add(func(t *api.OverTown, n int) { t.Shop.Wants = make([]int, n) }, 0, 1, 4, 1000)
	add(func(t *api.OverTown, n int) { t.Shop.Wants[0] = n }, -1, 13, most, least)
	add(func(t *api.OverTown, n int) { t.Shop.Moulds = t.Shop.Moulds[:n] }, 0, 3)
	add(func(t *api.OverTown, n int) { t.Shop.Worlds = slices.Repeat(t.Shop.Worlds, n) }, 2, 1000)
	add(func(t *api.OverTown, n int) { t.Shop.Fresh = n }, 0, -1, 13, most, least)
	return append(towns, api.OverTown{}, api.OverTown{House: town().House}, api.OverTown{Shop: town().Shop})
}

// P1 and P12.1, and ErrOver ahead of ErrMany
func TestCheckInvalid(t *testing.T) {
	for _, x := range invalid() {
		checks.Expect(t, x, api.ErrOver, checks.Said("Check", overseer.Check(x), true))
		for _, l := range [][]string{nil, {"sure"}, {"machine 0 1 0"}, make([]string, 24), make([]string, 25), make([]string, 1000)} {
			checks.Expect(t, x, api.ErrOver, ran(x, l))
		}
	}
}

// P1 and ErrMany: lines of all kinds count
func TestTooManyLines(t *testing.T) {
	for _, text := range []string{"sure", "cast 0", "", "what", "line 0 is not", "train 5"} {
		for _, x := range []api.OverTown{town(), bare()} {
			for _, many := range []int{25, 26, 1000} {
				checks.Expect(t, text, api.ErrMany, ran(x, slices.Repeat([]string{text}, many)))
			}
			checks.ExpectNot(t, text, api.ErrMany, ran(x, slices.Repeat([]string{text}, 24)))
		}
	}
}

// answered is lines and the answers to them, both with a slash between each two.
type answered struct{ lines, answers string }

// checkRows checks the answers to rows of lines, each of which follows those of the row before.
func checkRows(t *testing.T, x api.OverTown, rows ...answered) result {
	t.Helper()
	var all, want []string
	for _, row := range rows {
		all, want = append(all, lines(row.lines)...), append(want, lines(row.answers)...)
	}
	got := run(t, x, all...)
	for n, text := range all {
		if len(want) != len(all) || got.answers[n] != want[n] {
			t.Fatalf("the line %d, %q, is answered %q; want %q", n, text, got.answers[n], want)
		}
	}
	return got
}

// P12.2: the chapter's examples
func TestExamples(t *testing.T) {
	got := checkRows(t, town(),
		answered{"sure/spare/stops 0 1/told/train 40/bundle 2 2 1", "1/2/ok/0/ok/ok"},
		answered{"line 2 is not/sure/line 4 is not/reads 4/at 4 told", "ok 2:no/1/ok 4:no 5:no/not/nothing"},
		answered{"left 0/cast 0/cast 9/left 0/broke 3/cast 3/line 15 is cast 3", "3 9/ok/no/2 8/ok/no/ok 16:ok"},
		answered{"line 15 is cast 0/line 3 is gap 1/new/worlds/sail", "ok/no/2/0 1 2/what"},
	)
	want := withTown(func(t *api.OverTown) { t.Shop.Moulds[0].Used, t.Shop.Moulds[3].Used = 5, 1 })
	if !checks.SameTown(got.after, want) || !slices.Equal(got.book, lines("cast 0/cast 0/cast 3")) {
		t.Errorf("the town is %v, the book %q", got.after, got.book)
	}
}

// checkEntry checks whether an entry holds, and, if so, what it changes.
func checkEntry(t *testing.T, x api.OverTown, entry string, holds bool, change func(t *api.OverTown)) {
	t.Helper()
	got, want, book := run(t, x, entry), x, []string(nil)
	if holds {
		want, book = changed(x, change), []string{entry}
	}
	if got.last() != said(holds) || !checks.SameTown(got.after, want) || !slices.Equal(got.book, book) {
		t.Errorf("%q is answered %q; the town is %v, want %v; the book %q", entry, got.last(), got.after, want, got.book)
	}
}

// P12.2: each entry, and each of its limits
func TestEntries(t *testing.T) {
	two := withTown(func(t *api.OverTown) { t.Shop.Moulds[3].Used = 11 })
	for _, x := range []struct {
		t      api.OverTown
		entry  string
		holds  bool
		change func(t *api.OverTown)
	}{
		{town(), "machine 0 1 0", true, func(t *api.OverTown) { t.House.Machines = append(t.House.Machines, api.TrainMachine{Pace: 1}) }},
		{town(), "machine 99 9 1", true, func(t *api.OverTown) {
			t.House.Machines = append(t.House.Machines, api.TrainMachine{Ready: 99, Pace: 9, Stops: 1})
		}},
		{town(), "machine -1 1 0", false, nil}, {town(), "machine 100 1 0", false, nil}, {town(), "machine 0 0 0", false, nil}, {town(), "machine 0 10 0", false, nil},
		{town(), "machine 0 1 -1", false, nil}, {town(), "machine 0 1 2", false, nil}, {full(), "machine 0 1 0", false, nil},
		{town(), "stops 0 1", true, func(t *api.OverTown) { t.House.Machines[0].Stops = 1 }}, {town(), "stops 1 1", true, func(t *api.OverTown) { t.House.Machines[1].Stops = 1 }},
		{town(), "stops 0 0", true, func(t *api.OverTown) {}}, {full(), "stops 2 0", true, func(t *api.OverTown) { t.House.Machines[2].Stops = 0 }},
		{town(), "stops 2 1", false, nil}, {town(), "stops -1 1", false, nil}, {town(), "stops 0 2", false, nil}, {town(), "stops 0 -1", false, nil},
		{town(), "train 0", true, func(t *api.OverTown) { t.House.Trains = append(t.House.Trains, 0) }}, {town(), "train 99", true, func(t *api.OverTown) { t.House.Trains = append(t.House.Trains, 99) }},
		{town(), "train 100", false, nil}, {town(), "train -1", false, nil}, {full(), "train 5", false, nil},
		{town(), "leaves 0 0", true, func(t *api.OverTown) { t.House.Trains[0] = 0 }}, {town(), "leaves 1 99", true, func(t *api.OverTown) { t.House.Trains[1] = 99 }},
		{town(), "leaves 2 5", false, nil}, {town(), "leaves -1 5", false, nil}, {town(), "leaves 0 -1", false, nil}, {town(), "leaves 0 100", false, nil}, {bare(), "leaves 0 5", false, nil},
		{town(), "bundle 1 1 0", true, func(t *api.OverTown) {
			t.House.Bundles = append(t.House.Bundles, api.TrainBundle{Train: 1, Hundreds: 1})
		}},
		{town(), "bundle 0 9 3", true, func(t *api.OverTown) {
			t.House.Bundles = append(t.House.Bundles, api.TrainBundle{Hundreds: 9, Edition: 3})
		}},
		{town(), "bundle 2 1 0", false, nil}, {town(), "bundle -1 1 0", false, nil}, {town(), "bundle 0 0 0", false, nil}, {town(), "bundle 0 10 0", false, nil},
		{town(), "bundle 0 1 -1", false, nil}, {town(), "bundle 0 1 4", false, nil}, {full(), "bundle 0 1 0", false, nil}, {bare(), "bundle 0 1 0", false, nil},
		{town(), "gap 0", true, func(t *api.OverTown) { t.House.Change = 0 }}, {town(), "gap 9", true, func(t *api.OverTown) { t.House.Change = 9 }},
		{town(), "gap 10", false, nil}, {town(), "gap -1", false, nil}, {town(), "gap 999999", false, nil}, {town(), "gap -999999", false, nil},
		{town(), "cast 0", true, func(t *api.OverTown) { t.Shop.Moulds[0].Used = 4 }}, {town(), "cast 3", true, func(t *api.OverTown) { t.Shop.Moulds[3].Used = 1 }},
		{two, "cast 3", true, func(t *api.OverTown) { t.Shop.Moulds[3].Used = 12 }}, {full(), "cast 0", false, nil},
		{town(), "cast 2", false, nil}, {town(), "cast 4", false, nil}, {town(), "cast -1", false, nil}, {bare(), "cast 0", false, nil},
		{town(), "broke 0", true, func(t *api.OverTown) { t.Shop.Moulds[0].Broke = 1 }}, {full(), "broke 4", true, func(t *api.OverTown) { t.Shop.Moulds[4].Broke = 1 }},
		{town(), "broke 2", false, nil}, {town(), "broke 4", false, nil}, {town(), "broke -1", false, nil}, {bare(), "broke 0", false, nil},
		{town(), "want 0 0", true, func(t *api.OverTown) { t.Shop.Wants[0] = 0 }}, {town(), "want 1 12", true, func(t *api.OverTown) { t.Shop.Wants[1] = 12 }},
		{town(), "want 2 1", false, nil}, {town(), "want -1 1", false, nil}, {town(), "want 0 13", false, nil}, {town(), "want 0 -1", false, nil}, {bare(), "want 0 1", false, nil},
	} {
		checkEntry(t, x.t, x.entry, x.holds, x.change)
	}
}

// P12.2: each question, and each kind of answers
func TestQuestions(t *testing.T) {
	told := withTown(func(t *api.OverTown) { t.House.Trains = []int{7, 10} })
	tired := withTown(func(t *api.OverTown) {
		t.Shop.Worlds = append(t.Shop.Worlds, []int{4, 9, 2, 0})
		t.Shop.Worlds[2][3] = 1
	})
	apart := withTown(func(t *api.OverTown) { t.Shop.Worlds = [][]int{{1, 1, 1, 1}} })
	for _, x := range []struct {
		t    api.OverTown
		rows []answered
	}{
		{town(), []answered{{"sure/fewest/told/wait 0/wait 1/spare", "1/0/nothing/0/0/2"}, {"new/worlds/left 0/left 1/left 2/left 3/test", "0/0 1 2/3 9/2 4/0 0/3 6/none"}}},
		{town(), []answered{{"wait 2/wait -1/wait 999999/left 4/left -1", "wrong/wrong/wrong/wrong/wrong"}}},
		{town(), []answered{{"stops 0 1/sure/fewest/told/wait 0/wait 1/spare", "ok/0/0/0/33/none/none"}}},
		{told, []answered{{"sure/fewest/told/spare", "0/2/0 1/none"}}},
		{bare(), []answered{{"sure/fewest/told/wait 0/spare", "1/0/nothing/wrong/99"}, {"new/worlds/left 0/test", "none/nothing/wrong/none"}}},
		{tired, []answered{{"new/worlds/left 3/left 0/test", "2/0 1 2 4/0 6/1 9/3"}, {"cast 3/worlds/test", "ok/0 1 2/3"}}},
		// If no world agrees, and one that does not know the mould is asked.
		{apart, []answered{{"new/worlds/left 0/left 4/test", "none/nothing/none/wrong/none"}}},
	} {
		checkRows(t, x.t, x.rows...)
	}
}

// P12.2: at and reads
func TestAtAndReads(t *testing.T) {
	checkRows(t, town(),
		answered{"at 0 sure/stops 0 1/at 1 sure/at 2 sure/at 4 sure/at 6 sure/at -1 sure", "1/ok/1/0/0/wrong/wrong"},
		answered{"gap 12/at 2 wait 0/at 1 wait 2/at 999999 wait 2/at 11 told/at 13 told", "no/33/wrong/wrong/0/wrong"},
		// An entry reads as it was written also if it does not hold; the line itself, and one behind it, is none ahead of it.
		answered{"reads 1/reads 7/reads 0/reads 16/reads 18/reads -1/reads 999999", "stops 0 1/gap 12/wrong/wrong/wrong/wrong/wrong"},
	)
	// What is asked of the town ahead of a line is answered as the lines read now.
	checkRows(t, town(),
		answered{"cast 0/left 0/cast 0/at 0 left 0/at 1 left 0/at 2 left 0/at 3 left 0", "ok/2 8/ok/3 9/2 8/2 8/1 7"},
		answered{"line 0 is broke 0/at 0 left 0/at 1 left 0/at 7 left 0/reads 0/reads 2/reads 7", "ok 2:no/3 9/none/none/broke 0/cast 0/wrong"},
		answered{"line 0 is not/at 1 left 0/at 2 left 0/at 3 left 0/reads 0/left 0", "ok 0:no 2:ok/3 9/3 9/2 8/not/2 8"},
	)
}

// P12.2: corrections
func TestCorrections(t *testing.T) {
	// A line is refused that is not ahead of the correction, or is no entry; an entry that does not hold is one, too.
	checkRows(t, town(),
		answered{"sure/line 0 is gap 1/line 1 is gap 1/line 2 is gap 1/line 3 is gap 1/line 5 is not", "1/no/no/no/no/no"},
		answered{"sail/line 6 is gap 1/line -1 is not/line 999999 is not/at 0 sure/line 10 is not", "what/no/no/no/1/no"},
		answered{"gap 12/line 12 is gap 1/reads 12/line 12 is gap 13/line 12 is gap 14/reads 12/line 12 is not", "no/ok 12:ok/gap 1/ok 12:no/ok/gap 14/ok"},
		answered{"reads 12/line 12 is gap 0/line 19 is not/reads 20", "not/ok 12:ok/no/wrong"},
	)
	// Things that are there because of a line move if it reads otherwise.
	got := checkRows(t, bare(),
		answered{"train 5/train 6/train 7/bundle 2 4 0/leaves 2 9/leaves 1 8", "ok/ok/ok/ok/ok/ok"},
		answered{"line 0 is not/line 1 is not/line 0 is train 20/line 1 is train 30", "ok 0:no 3:no 4:no/ok 1:no 5:no/ok 0:ok 5:ok/ok 1:ok 3:ok 4:ok"},
		answered{"line 3 is bundle 0 1 0/line 5 is not/line 4 is cast 0/line 2 is machine 1 1 1", "ok/ok 5:no/ok 4:no/ok"},
	)
	want := changed(bare(), func(t *api.OverTown) {
		t.House.Machines = append(t.House.Machines, api.TrainMachine{Ready: 1, Pace: 1, Stops: 1})
		t.House.Trains, t.House.Bundles = []int{20, 30}, []api.TrainBundle{{Hundreds: 1}}
	})
	if !checks.SameTown(got.after, want) || !slices.Equal(got.book, lines("train 20/train 30/machine 1 1 1/bundle 0 1 0")) {
		t.Errorf("the town is %v, the book %q", got.after, got.book)
	}
	// If there is room for one only, the later one holds as soon as the earlier one does not.
	checkRows(t, full(),
		answered{"stops 0 0/machine 0 1 0/line 0 is not/line 0 is gap 10/line 0 is broke 0/cast 0/line 0 is not", "ok/no/ok 0:no/ok/ok 0:ok/no/ok 0:no"},
	)
	three := withTown(func(t *api.OverTown) { t.House.Trains = append(t.House.Trains, 5) })
	got = checkRows(t, three, answered{"train 1/train 2/line 0 is not/line 0 is train 3", "ok/no/ok 0:no 1:ok/ok 0:ok 1:no"})
	if !slices.Equal(got.book, lines("train 3")) || !slices.Equal(got.after.House.Trains, []int{10, 31, 5, 3}) {
		t.Errorf("the town is %v, the book %q", got.after, got.book)
	}
}

// P12.2 and P12.12: lines that are not clear
func TestUnclear(t *testing.T) {
	for _, text := range []string{
		"", " ", "  ", "sail", "not", "ok", "Sure", "SURE", "sure ", " sure", "sure  ", "sure 0", "sure\n", "\tsure", "sure\x00", "su re", "s",
		"machine", "machine 0", "machine 0 1", "machine 0 1 0 0", "stops", "stops 0", "stops 0 1 0", "train", "train 5 5", "leaves 0", "leaves 0 5 5", "bundle 0 1", "bundle 0 1 0 0",
		"gap", "gap 1 1", "cast", "cast 0 0", "broke", "broke 0 0", "want 0", "want 0 0 0", "wait", "wait 0 0", "left", "left 0 0", "test 0", "new 1", "worlds 0", "told 0", "spare 0", "fewest 0",
		"gap  1", "gap 1 ", " gap 1", "gap\t1", "gap\u00a01", "machine 0  1 0", "gap 01", "gap 00", "gap +1", "gap +0", "gap -0", "gap -01", "gap --1", "gap -", "gap 1-", "gap 1.0", "gap 1e0", "gap 0x1", "gap 1_0", "gap one",
		"gap \uff11", "gap \u0661", "gap 1000000", "gap -1000000", "gap 9999999", "gap 0000001", "gap 99999999999999999999", "gap -99999999999999999999",
		"at", "at 0", "at sure", "at 0 gap 1", "at 0 reads 0", "at 0 at 0 sure", "at 00 sure", "at 0  sure", "at 0 sure ", "at 0 sure 0", "at 0 what", "at 0 line 0 is not", "at x sure", "at 1000000 sure", "at 0 wait", "at 0 wait +0",
		"reads", "reads x", "reads 0 0", "reads 00", "reads 0 ", "reads gap 1", "reads 1000000",
		"line", "line 0", "line 0 is", "line 0 not", "line 0 gap 1", "line 0 is sure", "line 0 is reads 0", "line 0 is at 0 sure", "line 0 is line 0 is not", "line 0 is not not", "line 0 is not ", "line 0  is not", "line 00 is not", "line x is not",
		"line 0 is gap", "line 0 is gap 01", "line 0 is sail", "line 0 is ", "line 0 was not", "line is not", "line 1000000 is not", "is not", "line 0 Is not", "line 0 is Not",
		strings.Repeat("sure ", 1000), "gap " + strings.Repeat("1", 100000), strings.Repeat(" ", 100000), "\xff", "gap \xff1",
	} {
		got := run(t, town(), "gap 5", text, "gap 3", text, "reads 0", "reads 1", "at 1 sure", text)
		if want := []string{"ok", "what", "ok", "what", "gap 5", "wrong", "1", "what"}; !slices.Equal(got.answers, want) || !slices.Equal(got.book, lines("gap 5/gap 3")) || got.after.House.Change != 3 {
			t.Errorf("with %.40q the answers are %q, the book %q", text, got.answers, got.book)
		}
	}
	// Numbers of six digits are numbers of which there is nothing.
	checkRows(t, town(), answered{"gap 999999/gap -999999/wait 100000/at -100000 sure/reads 123456/line -123456 is not", "no/no/wrong/wrong/wrong/no"})
}

// P12.2: no lines at all
func TestNoLines(t *testing.T) {
	for _, x := range []api.OverTown{town(), bare(), full()} {
		if got := run(t, x); len(got.answers)+len(got.book) > 0 || !checks.SameTown(got.after, x) {
			t.Errorf("Run of no lines = %v", got)
		}
	}
}

// P12.1 and P12.2: of many nights
func TestAllNights(t *testing.T) {
	seen := map[string]int{}
	for _, x := range someNights(4000, 24) {
		if e := overseer.Check(x.town); e != api.OK {
			t.Fatalf("Check(%v) = %d", x.town, e)
		}
		got := run(t, x.town, x.lines...)
		answers, after, book := wantRun(x.town, x.lines)
		if !slices.Equal(got.answers, answers) || !got.ends(result{answers, after, book}) {
			t.Fatalf("%v: Run of %q = %v, want %q, %v, %q", x.town, x.lines, got, answers, after, book)
		}
		for n, answer := range answers {
			first, _, _ := strings.Cut(x.lines[n], " ")
			seen[first]++
			switch answer {
			case "ok", "no", "what", "none", "wrong", "nothing", "not":
				seen[answer]++
			}
			if strings.Contains(answer, ":ok") {
				seen[":ok"]++
			}
			if strings.Contains(answer, ":no") {
				seen[":no"]++
			}
			if strings.Count(answer, ":") > 1 {
				seen["::"]++
			}
		}
	}
	for _, what := range strings.Fields("machine stops train leaves bundle gap cast broke want sure fewest told wait spare new worlds left test at reads line ok no what none wrong nothing not :ok :no ::") {
		if seen[what] < 100 {
			t.Errorf("only %d of %q", seen[what], what)
		}
	}
}

// P1: any lines
func TestAnyLines(t *testing.T) {
	r := rand.New(rand.NewSource(1))
	words := strings.Fields("machine stops train leaves bundle gap cast broke want sure fewest told wait spare new worlds left test at reads line is not 0 1 2 5 -1 99 999999 07")
	for range 2000 {
		var all []string
		for range 24 {
			var some []string
			for range r.Intn(6) {
				some = append(some, words[r.Intn(len(words))])
			}
			all = append(all, strings.Join(some, " "))
		}
		got := run(t, town(), all...)
		answers, after, book := wantRun(town(), all)
		if !slices.Equal(got.answers, answers) || !got.ends(result{answers, after, book}) {
			t.Fatalf("Run of %q = %v, want %q, %v, %q", all, got, answers, after, book)
		}
	}
}

// R2 to R4
func TestMemory(t *testing.T) {
	x := town()
	h, s := &x.House, &x.Shop
	h.Machines, h.Bundles, h.Trains = slices.Grow(h.Machines, 4), slices.Grow(h.Bundles, 4), slices.Grow(h.Trains, 4)
	s.Moulds, s.Worlds, s.Wants = slices.Grow(s.Moulds, 4), slices.Grow(s.Worlds, 4), slices.Grow(s.Wants, 4)
	s.Worlds[0] = slices.Grow(s.Worlds[0], 4)
	nothing, all := slices.Grow([]string(nil), 4), append(slices.Grow([]string(nil), 8), lines("machine 1 1 1/train 5/leaves 0 3/bundle 0 1 0/cast 0/broke 1/want 0 2/line 0 is not/stops 1 1/gap 4")...)
	was := slices.Clone(all)
	for range 2 {
		for _, l := range [][]string{nothing, all} {
			got := run(t, x, l...)
			other := run(t, x, l...)
			if len(got.answers) != len(l) || !got.ends(other) {
				t.Fatalf("Run = %v, and again %v", got, other)
			}
			checks.Spoil(got.answers, "wrong")
			checks.Spoil(got.book, "wrong")
			checks.Spoil(got.after.House.Machines, api.TrainMachine{Pace: -7})
			checks.Spoil(got.after.House.Bundles, api.TrainBundle{Train: -7})
			checks.Spoil(got.after.House.Trains, -7)
			checks.Spoil(got.after.Shop.Moulds, api.FlongMould{Page: -7})
			checks.Spoil(got.after.Shop.Wants, -7)
			for _, lasts := range got.after.Shop.Worlds {
				checks.Spoil(lasts, -7)
			}
			checks.Spoil(got.after.Shop.Worlds, nil)
		}
		if !checks.SameTown(x, town()) || !slices.Equal(all, was) {
			t.Fatalf("an argument was changed: %v, %q", x, all)
		}
		if !checks.Clean(h.Machines) || !checks.Clean(h.Bundles) || !checks.Clean(h.Trains) || !checks.Clean(s.Moulds) || !checks.Clean(s.Wants) || !checks.Clean(s.Worlds[0]) || !checks.Clean(all) || !checks.Clean(nothing) {
			t.Fatal("what is behind an argument was changed")
		}
	}
}

// R3
func TestNilAndEmpty(t *testing.T) {
	empty := api.OverTown{
		House: api.TrainHouse{Machines: bare().House.Machines, Bundles: []api.TrainBundle{}, Trains: []int{}},
		Shop:  api.FlongShop{Moulds: []api.FlongMould{}, Worlds: [][]int{}, Wants: []int{}, Fresh: 1},
	}
	all := lines("told/worlds/train 5/bundle 0 1 0/line 2 is not/told/want 0 0/cast 0")
	if one, other := run(t, bare(), all...), run(t, empty, all...); !slices.Equal(one.answers, other.answers) || !one.ends(other) {
		t.Errorf("Run = %v, and of empty lists %v", one, other)
	}
	if one, other := run(t, bare()), run(t, empty, []string{}...); !one.ends(other) || !checks.SameTown(one.after, empty) {
		t.Errorf("Run = %v, and of empty lists %v", one, other)
	}
	worlds := withTown(func(t *api.OverTown) { t.Shop.Moulds, t.Shop.Worlds = nil, [][]int{nil, {}} })
	if got := run(t, worlds, "worlds", "new"); !slices.Equal(got.answers, []string{"0 1", "2"}) {
		t.Errorf("the answers are %q", got.answers)
	}
}
