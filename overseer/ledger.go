package overseer

import (
	"iter"
	"strings"

	"flong/api"
)

// ledger is the town of the beginning, and all lines that were written so far.
type ledger struct {
	given api.OverTown
	lines []line
}

// line is a line as it reads now. If it was not written as an entry, it is not corrected, and changes nothing.
type line struct {
	entered bool
	now     entry
}

// write does one line more, and returns what is answered.
func (d *ledger) write(text string) answer {
	words := strings.Split(text, " ")
	if e, ok := entryOf(words); ok {
		return d.enter(e)
	}
	// A line can ask about itself, so it is answered before it is one of the lines.
	a := d.reply(words)
	d.lines = append(d.lines, line{})
	return a
}

func (d *ledger) enter(e entry) answer {
	town, _ := d.ahead(len(d.lines))
	d.lines = append(d.lines, line{true, e})
	_, holds := e.onto(town)
	return verdict(holds)
}

// reply returns the answer to a line that is no entry.
func (d *ledger) reply(words []string) answer {
	if ask, ok := questionOf(words); ok {
		town, _ := d.ahead(len(d.lines))
		return ask(town)
	}
	if len(words) < 2 {
		return unclear
	}
	number, ok := numberOf(words[1])
	switch {
	case !ok:
		return unclear
	case words[0] == "at":
		return d.at(number, words[2:])
	case words[0] == "reads" && len(words) == 2:
		return d.reads(number)
	case words[0] == "line" && len(words) > 3 && words[2] == "is":
		return d.correct(number, words[3:])
	}
	return unclear
}

// at answers a question of the town ahead of a line.
func (d *ledger) at(number int, words []string) answer {
	ask, ok := questionOf(words)
	if !ok {
		return unclear
	}
	if number < 0 || number > len(d.lines) {
		return wrong
	}
	town, _ := d.ahead(number)
	return ask(town)
}

// reads answers how a line reads now.
func (d *ledger) reads(number int) answer {
	if !d.isEntry(number) {
		return wrong
	}
	return word(d.lines[number].now.text)
}

// correct makes a line read otherwise, and answers which entries hold now and did not, or the other way around.
func (d *ledger) correct(number int, words []string) answer {
	e, ok := correctionOf(words)
	if !ok {
		return unclear
	}
	if !d.isEntry(number) {
		return verdict(false)
	}
	_, before := d.ahead(len(d.lines))
	d.lines[number].now = e
	_, behind := d.ahead(len(d.lines))
	var turned turns
	for i, holds := range behind {
		if holds != before[i] {
			turned = append(turned, turn{i, verdict(holds)})
		}
	}
	return turned
}

// isEntry reports whether there is a line that was written as an entry.
func (d *ledger) isEntry(number int) bool {
	return has(d.lines, number) && d.lines[number].entered
}

// entries yields the entries ahead of a line with their numbers, as they read now.
func (d *ledger) entries(before int) iter.Seq2[int, entry] {
	return func(yield func(int, entry) bool) {
		for number, l := range d.lines[:before] {
			if l.entered && !yield(number, l.now) {
				return
			}
		}
	}
}

// ahead returns the town ahead of a line, and which of the lines ahead of it are entries that hold.
func (d *ledger) ahead(before int) (api.OverTown, []bool) {
	town, holds := d.given, make([]bool, before)
	for number, e := range d.entries(before) {
		town, holds[number] = e.onto(town)
	}
	return town, holds
}

// readings returns how those lines read that hold.
func (d *ledger) readings(holds []bool) []string {
	var texts []string
	for number, e := range d.entries(len(holds)) {
		if holds[number] {
			texts = append(texts, e.text)
		}
	}
	return texts
}
