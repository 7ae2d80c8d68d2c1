package fire

import (
	"cmp"
	"slices"

	"flong/api"
)

// bits is some changes: the bit of a change is 1 if it is one of them.
type bits uint8

// list returns the changes, ascending.
func (b bits) list() []int {
	var list []int
	for change := range api.MaxChanges {
		if b>>change&1 == 1 {
			list = append(list, change)
		}
	}
	return list
}

// compare returns a number below 0 if there are fewer changes than others, or as many, and the list of them is less.
func (b bits) compare(other bits) int {
	one, two := b.list(), other.list()
	return cmp.Or(cmp.Compare(len(one), len(two)), slices.Compare(one, two))
}
