package overseer

import (
	"strconv"
	"strings"
)

// maxDigits is how many digits a number in a line has at most.
const maxDigits = 6

// form is the first word of a line, and how many numbers are behind it.
type form struct {
	word    string
	numbers int
}

// formOf returns the form of words of which all but the first one are numbers, and these.
func formOf(words []string) (form, []int, bool) {
	if len(words) == 0 {
		return form{}, nil, false
	}
	var numbers []int
	for _, w := range words[1:] {
		n, ok := numberOf(w)
		if !ok {
			return form{}, nil, false
		}
		numbers = append(numbers, n)
	}
	return form{words[0], len(numbers)}, numbers, true
}

// numberOf returns the number that a word is, if it is written as a number must be: each number in just one way.
func numberOf(word string) (int, bool) {
	if len(strings.TrimPrefix(word, "-")) > maxDigits {
		return 0, false
	}
	n, e := strconv.Atoi(word)
	return n, e == nil && strconv.Itoa(n) == word
}
