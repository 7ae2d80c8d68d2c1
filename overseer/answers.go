package overseer

import (
	"strconv"
	"strings"

	"flong/api"
)

// answer is what is answered to a line.
type answer interface {
	// told returns the answer as it is written.
	told() string
}

// word is an answer that is written as it is.
type word string

// What is answered where a line is not clear, where there is nothing of the kind that was asked for, and where what was asked cannot be asked.
const (
	unclear word = "what"
	none    word = "none"
	wrong   word = "wrong"
)

// verdict is whether an entry holds, or a correction is done.
type verdict bool

// numbers are what a function returned.
type numbers []int

// turn is that a line holds now and did not, or the other way around.
type turn struct {
	number int
	holds  verdict
}

// turns are all that a correction turned.
type turns []turn

func (w word) told() string { return string(w) }

func (v verdict) told() string {
	if v {
		return "ok"
	}
	return "no"
}

func (l numbers) told() string {
	if len(l) == 0 {
		return "nothing"
	}
	var words []string
	for _, n := range l {
		words = append(words, strconv.Itoa(n))
	}
	return strings.Join(words, " ")
}

func (l turns) told() string {
	words := []string{verdict(true).told()}
	for _, t := range l {
		words = append(words, strconv.Itoa(t.number)+":"+t.holds.told())
	}
	return strings.Join(words, " ")
}

// unless returns an answer, or that of an error if there is one.
func unless(e api.Errno, a answer) answer {
	switch e {
	case api.OK:
		return a
	case api.ErrNone:
		return none
	}
	return wrong
}

func truth(is bool, e api.Errno) answer {
	if is {
		return unless(e, numbers{1})
	}
	return unless(e, numbers{0})
}

func one(n int, e api.Errno) answer { return unless(e, numbers{n}) }

func all(l []int, e api.Errno) answer { return unless(e, numbers(l)) }

func ends(s api.Span, e api.Errno) answer { return unless(e, numbers{s.Low, s.High}) }
