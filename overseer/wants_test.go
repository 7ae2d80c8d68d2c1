package overseer_test

import (
	"fmt"
	"regexp"
	"strconv"
	"strings"

	"flong/api"
	"flong/checks"
	"flong/flongs"
	"flong/trains"
)

// How the lines are written that the chapter lists.
const (
	aNumber   = `(?:0|-?[1-9][0-9]{0,5})`
	anEntry   = `(?:(?:machine|bundle) N N N|(?:stops|leaves|want) N N|(?:train|gap|cast|broke) N)`
	aQuestion = `(?:sure|fewest|told|spare|new|worlds|test|(?:wait|left) N)`
)

func form(is string) *regexp.Regexp {
	is = strings.NewReplacer("E", anEntry, "Q", aQuestion).Replace(is)
	return regexp.MustCompile(`\A` + strings.ReplaceAll(is, "N", aNumber) + `\z`)
}

var (
	entryForm      = form(`E`)
	questionForm   = form(`Q`)
	atForm         = form(`at (N) (Q)`)
	readsForm      = form(`reads (N)`)
	correctionForm = form(`line (N) is (E|not)`)
)

// wanted plays lines as the chapter says, all of them anew for each answer: now is how each entry reads, and is empty where the line was not written as one.
type wanted struct {
	given api.OverTown
	now   []string
}

// wantRun returns what Run of a valid town and not too many lines should.
func wantRun(t api.OverTown, lines []string) ([]string, api.OverTown, []string) {
	w := wanted{given: t}
	var answers []string
	for _, text := range lines {
		answers = append(answers, w.line(text))
	}
	after, holds := w.play(len(lines))
	var book []string
	for n, is := range holds {
		if is {
			book = append(book, w.now[n])
		}
	}
	return answers, after, book
}

// line returns the answer to one line more.
func (w *wanted) line(text string) string {
	if entryForm.MatchString(text) {
		w.now = append(w.now, text)
		_, holds := w.play(len(w.now))
		return said(holds[len(w.now)-1])
	}
	defer func() { w.now = append(w.now, "") }()
	entered := func(digits string) (int, bool) {
		n, _ := strconv.Atoi(digits)
		return n, n >= 0 && n < len(w.now) && w.now[n] != ""
	}
	if questionForm.MatchString(text) {
		town, _ := w.play(len(w.now))
		return wantAnswer(town, text)
	}
	if parts := atForm.FindStringSubmatch(text); parts != nil {
		n, _ := strconv.Atoi(parts[1])
		if n < 0 || n > len(w.now) {
			return "wrong"
		}
		town, _ := w.play(n)
		return wantAnswer(town, parts[2])
	}
	if parts := readsForm.FindStringSubmatch(text); parts != nil {
		n, ok := entered(parts[1])
		if !ok {
			return "wrong"
		}
		return w.now[n]
	}
	if parts := correctionForm.FindStringSubmatch(text); parts != nil {
		n, ok := entered(parts[1])
		if !ok {
			return "no"
		}
		return w.correct(n, parts[2])
	}
	return "what"
}

func (w *wanted) correct(n int, reads string) string {
	_, before := w.play(len(w.now))
	w.now[n] = reads
	_, behind := w.play(len(w.now))
	answer := "ok"
	for i := range behind {
		if before[i] != behind[i] {
			answer += fmt.Sprintf(" %d:%s", i, said(behind[i]))
		}
	}
	return answer
}

func said(holds bool) string { return map[bool]string{true: "ok", false: "no"}[holds] }

// play returns the town ahead of a line, and which lines ahead of it hold.
func (w *wanted) play(before int) (api.OverTown, []bool) {
	town, holds := checks.CopyTown(w.given), make([]bool, before)
	for n, reads := range w.now[:before] {
		if reads == "" || reads == "not" {
			continue
		}
		with := checks.CopyTown(town)
		if holds[n] = wantChange(&with, reads) && wantValid(with); holds[n] {
			town = with
		}
	}
	return town, holds
}

// wantChange changes a town in place, and reports whether there is that of which an entry speaks.
func wantChange(t *api.OverTown, entry string) bool {
	words := strings.Fields(entry)
	var n [4]int
	for i, w := range words {
		n[i], _ = strconv.Atoi(w)
	}
	among := func(many int) bool { return n[1] >= 0 && n[1] < many }
	h, s := &t.House, &t.Shop
	switch words[0] {
	case "machine":
		h.Machines = append(h.Machines, api.TrainMachine{Ready: n[1], Pace: n[2], Stops: n[3]})
	case "stops":
		if !among(len(h.Machines)) {
			return false
		}
		h.Machines[n[1]].Stops = n[2]
	case "train":
		h.Trains = append(h.Trains, n[1])
	case "leaves":
		if !among(len(h.Trains)) {
			return false
		}
		h.Trains[n[1]] = n[2]
	case "bundle":
		h.Bundles = append(h.Bundles, api.TrainBundle{Train: n[1], Hundreds: n[2], Edition: n[3]})
		return among(len(h.Trains))
	case "gap":
		h.Change = n[1]
	case "want":
		if !among(len(s.Wants)) {
			return false
		}
		s.Wants[n[1]] = n[2]
	default:
		if !among(len(s.Moulds)) || s.Moulds[n[1]].Broke == 1 {
			return false
		}
		if words[0] == "cast" {
			s.Moulds[n[1]].Used++
		} else {
			s.Moulds[n[1]].Broke = 1
		}
	}
	return true
}

// wantValid says in the words of chapters 4 and 2 whether a town is valid that was so ahead of an entry.
func wantValid(t api.OverTown) bool {
	within := func(n, least, most int) bool { return n >= least && n <= most }
	h, s := t.House, t.Shop
	ok := within(len(h.Machines), 1, 3) && len(h.Bundles) <= 5 && len(h.Trains) <= 4 && within(h.Change, 0, 9)
	for _, m := range h.Machines {
		ok = ok && within(m.Ready, 0, 99) && within(m.Pace, 1, 9) && within(m.Stops, 0, 1)
	}
	for _, b := range h.Bundles {
		ok = ok && within(b.Train, 0, len(h.Trains)-1) && within(b.Hundreds, 1, 9) && within(b.Edition, 0, 3)
	}
	for _, minute := range h.Trains {
		ok = ok && within(minute, 0, 99)
	}
	for _, want := range s.Wants {
		ok = ok && within(want, 0, 12)
	}
	for _, m := range s.Moulds {
		ok = ok && within(m.Used, 0, 12)
	}
	return ok
}

// wantAnswer asks the functions of the layers.
func wantAnswer(t api.OverTown, question string) string {
	var n int
	words := strings.Fields(question)
	if len(words) > 1 {
		n, _ = strconv.Atoi(words[1])
	}
	switch words[0] {
	case "sure":
		is, e := trains.Sure(t.House)
		return shown(e, map[bool]int{true: 1}[is])
	case "fewest":
		many, e := trains.Fewest(t.House)
		return shown(e, many)
	case "told":
		l, e := trains.Told(t.House)
		return shown(e, l...)
	case "wait":
		minutes, e := trains.Wait(t.House, n)
		return shown(e, minutes)
	case "spare":
		minutes, e := trains.Spare(t.House)
		return shown(e, minutes)
	case "new":
		many, e := flongs.New(t.Shop)
		return shown(e, many)
	case "worlds":
		l, e := flongs.Worlds(t.Shop)
		return shown(e, l...)
	case "left":
		s, e := flongs.Left(t.Shop, n)
		return shown(e, s.Low, s.High)
	}
	mould, e := flongs.Test(t.Shop)
	return shown(e, mould)
}

func shown(e api.Errno, l ...int) string {
	switch {
	case e == api.ErrNone:
		return "none"
	case e != api.OK:
		return "wrong"
	case len(l) == 0:
		return "nothing"
	}
	return strings.Trim(fmt.Sprint(l), "[]")
}
