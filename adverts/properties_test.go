package adverts_test

import (
	"math/rand"
	"slices"
	"testing"

	"flong/adverts"
	"flong/api"
	"flong/checks"
	"flong/pages"
)

func billOf(t *testing.T, b api.AdBook, lines []int) int {
	t.Helper()
	return checks.Must[int](t, b)(adverts.Bill(b, lines))
}

func billingOf(t *testing.T, b api.AdBook, lines []int) []int {
	t.Helper()
	return checks.Must[[]int](t, b)(adverts.Billing(b, lines))
}

func worthOf(t *testing.T, b api.AdBook, lines []int, contract int) int {
	t.Helper()
	return checks.Must[int](t, b)(adverts.Worth(b, lines, contract))
}

func owed(t *testing.T, b api.AdBook) api.Span {
	t.Helper()
	return checks.Must[api.Span](t, b)(adverts.Owed(b))
}

func standings(t *testing.T, b api.AdBook) []api.AdDay {
	t.Helper()
	return checks.Must[[]api.AdDay](t, b)(adverts.Standings(b))
}

// allSingle is the list by which all standings of a book are single.
func allSingle(t *testing.T, b api.AdBook) []int {
	t.Helper()
	return slices.Repeat(list(api.AdSingle), len(standings(t, b)))
}

// P8.13
func TestEachTruth(t *testing.T) {
	wide := 0
	for _, b := range someBooks(1500, 6) {
		s := owed(t, b)
		low, high := false, false
		for _, lines := range wantTruths(b) {
			n := billOf(t, b, lines)
			if n < s.Low || n > s.High {
				t.Fatalf("%v: Owed = %v, Bill(%v) = %d", b, s, lines, n)
			}
			low, high = low || n == s.Low, high || n == s.High
		}
		if !low || !high {
			t.Fatalf("%v: Owed = %v, but no bill is both ends of it", b, s)
		}
		wide += min(s.High-s.Low, 1)
	}
	if wide < 500 {
		t.Errorf("only %d times there was more than one bill", wide)
	}
}

// P8.14
func TestEachBilling(t *testing.T) {
	r := rand.New(rand.NewSource(14))
	cost, equal := 0, 0
	for _, b := range someBooks(300, 6) {
		for _, lines := range someLines(r, b) {
			n, l := billOf(t, b, lines), billingOf(t, b, lines)
			if pence, e := adverts.Cost(b, lines, l); pence != n || e != api.OK {
				t.Fatalf("%v: Bill(%v) = %d, Billing = %v, which costs %d, %d", b, lines, n, l, pence, e)
			}
			for _, other := range wantLists(len(l), len(b.Contracts)-1) {
				pence, e := adverts.Cost(b, lines, other)
				if e == api.ErrNone {
					continue
				}
				if pence < n || pence == n && slices.Compare(other, l) < 0 {
					t.Fatalf("%v: Bill(%v) = %d, Billing = %v, but %v costs %d", b, lines, n, l, other, pence)
				}
				if cost++; pence == n && !slices.Equal(other, l) {
					equal++
				}
			}
		}
	}
	if cost < 10000 || equal < 1000 {
		t.Errorf("only %d lists were billings; only %d others were as good as the first one", cost, equal)
	}
}

// P8.15
func TestMore(t *testing.T) {
	r := rand.New(rand.NewSource(15))
	dearer, longer := 0, 0
	for _, b := range someBooks(1500, 5) {
		for _, lines := range someLines(r, b) {
			n := billOf(t, b, lines)
			for ad := range lines {
				more := slices.Clone(lines)
				if more[ad]++; more[ad] > api.MaxAdLines {
					continue
				}
				now := billOf(t, b, more)
				if now < n {
					t.Fatalf("%v: Bill(%v) = %d, with one more line of %d %d", b, lines, n, ad, now)
				}
				dearer += min(now-n, 1)
			}
			for _, s := range b.Shown {
				s.Edition = (s.Edition + 1 + r.Intn(2)) % 3
				if slices.Contains(b.Shown, s) {
					continue
				}
				more := changed(b, func(b *api.AdBook) { b.Shown = slices.Insert(b.Shown, r.Intn(len(b.Shown)+1), s) })
				if now := billOf(t, more, lines); now != n {
					t.Fatalf("%v: Bill(%v) = %d, shown once more on a day %d", b, lines, n, now)
				}
				longer++
			}
		}
	}
	if dearer < 3000 || longer < 3000 {
		t.Errorf("only %d times one more line was dearer; only %d times one more was shown", dearer, longer)
	}
}

// P8.16
func TestContracts(t *testing.T) {
	r := rand.New(rand.NewSource(16))
	less, worth := map[string]int{}, 0
	for _, b := range someBooks(1500, 6) {
		for _, lines := range someLines(r, b)[:3] {
			n := billOf(t, b, lines)
			check := func(what string, now api.AdBook) {
				if adverts.Check(now) != api.OK {
					return
				}
				m := billOf(t, now, lines)
				if m > n {
					t.Fatalf("%v: Bill(%v) = %d, %s: %v: %d", b, lines, n, what, now, m)
				}
				less[what] += min(n-m, 1)
			}
			more := someContract(r, b, r.Intn(14))
			check("with one more contract", changed(b, func(b *api.AdBook) { b.Contracts = slices.Insert(b.Contracts, r.Intn(len(b.Contracts)+1), more) }))
			bought := checks.Must[[]int](t, b)(adverts.Bought(b, lines))
			for i := range b.Contracts {
				check("with a cheaper one", changed(b, func(b *api.AdBook) { b.Contracts[i].Pence -= 1 + r.Intn(3) }))
				check("with more room", changed(b, func(b *api.AdBook) { b.Contracts[i].Room += 1 + r.Intn(3) }))
				w := worthOf(t, b, lines, i)
				if now := billOf(t, without(b, i), lines); now != n+w || w > 0 && !slices.Contains(bought, i) || w < 0 {
					t.Fatalf("%v: Bill(%v) = %d, without %d %d, Worth = %d, Bought = %v", b, lines, n, i, now, w, bought)
				}
				worth += min(w, 1)
			}
		}
	}
	if len(less) != 3 || less["with one more contract"] < 200 || less["with a cheaper one"] < 500 || less["with more room"] < 200 || worth < 500 {
		t.Errorf("bills were less: %v; %d contracts were worth something", less, worth)
	}
}

// P8.17
func TestAllSingle(t *testing.T) {
	r := rand.New(rand.NewSource(17))
	less := 0
	for _, b := range someBooks(2000, 6) {
		none := changed(b, func(b *api.AdBook) { b.Contracts = nil })
		for _, lines := range someLines(r, b) {
			n := billOf(t, b, lines)
			all := checks.Must[int](t, b)(adverts.Cost(b, lines, allSingle(t, b)))
			if n > all || len(b.Contracts) == 0 && n != all || billOf(t, none, lines) != all {
				t.Fatalf("%v: Bill(%v) = %d, all single %d", b, lines, n, all)
			}
			less += min(all-n, 1)
		}
	}
	if less < 1000 {
		t.Errorf("only %d bills were less than all single", less)
	}
}

// P8.18
func TestPaidOnce(t *testing.T) {
	r := rand.New(rand.NewSource(18))
	out, in := 0, 0
	for _, b := range someBooks(2000, 6) {
		billed := someBilled(r, b)
		twice := checks.Must[[]int](t, b)(adverts.Twice(b, billed))
		missing := checks.Must[[]api.AdDay](t, b)(adverts.Missing(b, billed))
		var right []api.AdDay
		for place, s := range billed {
			if !slices.Contains(twice, place) {
				right = append(right, s)
			}
		}
		right = append(right, missing...)
		many := map[api.AdDay]int{}
		for _, s := range right {
			many[s]++
		}
		all := standings(t, b)
		for _, s := range all {
			if many[s] != 1 {
				t.Fatalf("%v: Twice(%v) = %v, Missing = %v: %v is billed %d times", b, billed, twice, missing, s, many[s])
			}
		}
		if len(right) != len(all) || !slices.IsSorted(twice) || len(slices.Compact(twice)) != len(twice) {
			t.Fatalf("%v: Twice(%v) = %v, Missing = %v", b, billed, twice, missing)
		}
		out, in = out+len(twice), in+len(missing)
	}
	if out < 2000 || in < 2000 {
		t.Errorf("only %d were billed twice, and %d were missing", out, in)
	}
}

// leftBy returns the greatest difference of Owed that one of the numbers of lines of an advertisement leaves.
func leftBy(t *testing.T, b api.AdBook, ad int) int {
	t.Helper()
	worst, was := 0, owed(t, b)
	for n := b.Lines[ad].Low; n <= b.Lines[ad].High; n++ {
		now := owed(t, counted(b, ad, n))
		if now.Low < was.Low || now.High > was.High {
			t.Fatalf("%v: Owed = %v, with %d lines of %d %v", b, was, n, ad, now)
		}
		worst = max(worst, now.High-now.Low)
	}
	return worst
}

// P8.19
func TestMeasured(t *testing.T) {
	seen := map[int]int{}
	for _, b := range someBooks(2000, 6) {
		if len(b.Lines) == 0 {
			continue
		}
		best := checks.Must[int](t, b)(adverts.Measure(b))
		left := leftBy(t, b, best)
		for ad := range b.Lines {
			if n := leftBy(t, b, ad); n < left || ad < best && n == left {
				t.Fatalf("%v: Measure = %d, which leaves %d, but %d leaves %d", b, best, left, ad, n)
			}
		}
		seen[best]++
	}
	if seen[0] < 200 || seen[1] < 200 || seen[2] < 100 {
		t.Errorf("what should be counted: %v", seen)
	}
}

// P8.20
func TestDearer(t *testing.T) {
	r := rand.New(rand.NewSource(20))
	seen := map[int]int{}
	for _, b := range someBooks(2000, 6) {
		for times := range 10 {
			dear := changed(b, func(b *api.AdBook) {
				b.Rate, b.Repeat = times*b.Rate, times*b.Repeat
				for i := range b.Contracts {
					b.Contracts[i].Pence *= times
				}
			})
			if adverts.Check(dear) != api.OK {
				continue
			}
			for _, lines := range someLines(r, b)[:2] {
				was, now := billOf(t, b, lines), billOf(t, dear, lines)
				l, m := billingOf(t, b, lines), billingOf(t, dear, lines)
				if now != times*was || times > 0 && !slices.Equal(l, m) {
					t.Fatalf("%v: Bill(%v) = %d, Billing = %v, %d times as dear %d, %v", b, lines, was, l, times, now, m)
				}
				for contract := range b.Contracts {
					if w, v := worthOf(t, b, lines, contract), worthOf(t, dear, lines, contract); v != times*w {
						t.Fatalf("%v: Worth(%v, %d) = %d, %d times as dear %d", b, lines, contract, w, times, v)
					}
				}
			}
			seen[times] += min(len(b.Contracts), 1)
		}
	}
	if seen[0] < 1000 || seen[2] < 200 || seen[3] < 100 {
		t.Errorf("books with contracts were so many times as dear: %v", seen)
	}
}

// later returns a book of which all is later by so many days, and whether it is valid.
func later(b api.AdBook, by int) (api.AdBook, bool) {
	b = changed(b, func(b *api.AdBook) {
		for i := range b.Shown {
			b.Shown[i].Day += by
		}
		for i := range b.Contracts {
			b.Contracts[i].From += by
		}
	})
	return b, adverts.Check(b) == api.OK
}

// laterDays returns standings that are later by so many days.
func laterDays(l []api.AdDay, by int) []api.AdDay {
	var all []api.AdDay
	for _, s := range l {
		all = append(all, api.AdDay{Ad: s.Ad, Day: s.Day + by})
	}
	return all
}

// P8.21
func TestLater(t *testing.T) {
	r := rand.New(rand.NewSource(21))
	many := 0
	for _, b := range someBooks(600, 6) {
		for by := 1; by <= 13; by++ {
			now, ok := later(b, by)
			if !ok {
				continue
			}
			many += min(len(b.Shown), 1)
			for _, lines := range someLines(r, b)[:2] {
				checkSame(t, b, now, lines)
			}
			if owed(t, b) != owed(t, now) || !slices.Equal(laterDays(standings(t, b), by), standings(t, now)) {
				t.Fatalf("%v: Owed = %v, later by %d %v", b, owed(t, b), by, owed(t, now))
			}
			for contract := range b.Contracts {
				k, e := adverts.Buy(b, contract)
				if l, f := adverts.Buy(now, contract); k != l || e != f {
					t.Fatalf("%v: Buy(%d) = %d, %d, later by %d %d, %d", b, contract, k, e, by, l, f)
				}
			}
			ad, e := adverts.Measure(b)
			if other, f := adverts.Measure(now); ad != other || e != f {
				t.Fatalf("%v: Measure = %d, %d, later by %d %d, %d", b, ad, e, by, other, f)
			}
			checkSameBilled(t, b, now, someBilled(r, b), by)
		}
	}
	if many < 1000 {
		t.Errorf("only %d books were later", many)
	}
}

func checkSame(t *testing.T, b, now api.AdBook, lines []int) {
	t.Helper()
	if billOf(t, b, lines) != billOf(t, now, lines) || !slices.Equal(billingOf(t, b, lines), billingOf(t, now, lines)) {
		t.Fatalf("%v: Bill(%v) = %d, of %v %d", b, lines, billOf(t, b, lines), now, billOf(t, now, lines))
	}
	for contract := range b.Contracts {
		if w, v := worthOf(t, b, lines, contract), worthOf(t, now, lines, contract); w != v {
			t.Fatalf("%v: Worth(%v, %d) = %d, of %v %d", b, lines, contract, w, now, v)
		}
		billing := slices.Repeat(list(contract), len(standings(t, b)))
		n, e := adverts.Cost(b, lines, billing)
		if m, f := adverts.Cost(now, lines, billing); n != m || e != f {
			t.Fatalf("%v: Cost(%v, %v) = %d, %d, of %v %d, %d", b, lines, billing, n, e, now, m, f)
		}
	}
}

func checkSameBilled(t *testing.T, b, now api.AdBook, billed []api.AdDay, by int) {
	t.Helper()
	others := laterDays(billed, by)
	one, other := checks.Must[[]int](t, b)(adverts.Twice(b, billed)), checks.Must[[]int](t, now)(adverts.Twice(now, others))
	m, n := checks.Must[[]api.AdDay](t, b)(adverts.Missing(b, billed)), checks.Must[[]api.AdDay](t, now)(adverts.Missing(now, others))
	if !slices.Equal(one, other) || !slices.Equal(laterDays(m, by), n) {
		t.Fatalf("%v: Twice(%v) = %v, Missing = %v, later by %d %v, %v", b, billed, one, m, by, other, n)
	}
}

// somePage returns a page whose pieces are advertisements of so many lines, and the book in which each of these is shown on one day; there are no contracts.
func somePage(r *rand.Rand) (api.PageFrame, api.AdBook, []int) {
	f, b := api.PageFrame{Slack: r.Intn(3)}, api.AdBook{Rate: 1 + r.Intn(9)}
	b.Repeat = r.Intn(b.Rate + 1)
	f.Columns = make([][]int, 1+r.Intn(2))
	var lines []int
	point := 1 + r.Intn(3)
	for ad := range r.Intn(4) {
		n := r.Intn([]int{4, 10}[r.Intn(2)])
		high := point*n + r.Intn(2)
		lines, b.Lines = append(lines, n), append(b.Lines, span(n, min(n+r.Intn(2), 9)))
		f.Pieces = append(f.Pieces, api.PagePiece{Height: span(point*n, high), Pence: b.Rate * n})
		column := r.Intn(len(f.Columns))
		f.Columns[column] = append(f.Columns[column], ad)
		f.Length = max(f.Length, high+r.Intn(3))
		b.Shown = append(b.Shown, api.AdShown{Ad: ad, Day: r.Intn(4), Edition: r.Intn(3)})
	}
	for range 1 + r.Intn(3) {
		f.Strips = append(f.Strips, api.PageStrip{Thick: 1 + r.Intn(6), Many: r.Intn(5)})
	}
	return f, b, lines
}

// less returns by how much the bill is less without some advertisements.
func less(t *testing.T, b api.AdBook, lines, out []int) int {
	t.Helper()
	now := changed(b, func(b *api.AdBook) {
		b.Shown = slices.DeleteFunc(b.Shown, func(s api.AdShown) bool { return slices.Contains(out, s.Ad) })
	})
	return billOf(t, b, lines) - billOf(t, now, lines)
}

// lockedWithout reports whether a page can be locked without some pieces.
func lockedWithout(f api.PageFrame, out []int) bool {
	left := api.PageFrame{Length: f.Length, Slack: f.Slack, Strips: f.Strips}
	for _, column := range f.Columns {
		var numbers []int
		for _, i := range column {
			if !slices.Contains(out, i) {
				numbers = append(numbers, len(left.Pieces))
				left.Pieces = append(left.Pieces, f.Pieces[i])
			}
		}
		left.Columns = append(left.Columns, numbers)
	}
	_, e := pages.Strips(left)
	return e == api.OK
}

// P0.7
func TestWhatIsNotPaid(t *testing.T) {
	r := rand.New(rand.NewSource(7))
	refused, others := 0, 0
	for range 6000 {
		f, b, lines := somePage(r)
		out, e := pages.Refuse(f)
		if e == api.ErrNone {
			continue
		}
		out = checks.Must[[]int](t, f)(out, e)
		lost := checks.Must[int](t, f)(pages.Lost(f))
		if n := less(t, b, lines, out); n != lost {
			t.Fatalf("%v: Refuse = %v, Lost = %d; %v: the bill is less by %d", f, out, lost, b, n)
		}
		for choice := range 1 << len(f.Pieces) {
			var other []int
			for i := range f.Pieces {
				if choice>>i&1 == 1 {
					other = append(other, i)
				}
			}
			if !lockedWithout(f, other) {
				continue
			}
			if n := less(t, b, lines, other); n < lost {
				t.Fatalf("%v: Refuse = %v, Lost = %d; %v: without %v the bill is less by %d", f, out, lost, b, other, n)
			}
			others++
		}
		refused += min(lost, 1)
	}
	if refused < 500 || others < 3000 {
		t.Errorf("only %d pages were locked without something paid; only %d choices locked one", refused, others)
	}
}
