package digest

import (
	"math/bits"
	"slices"
)

// span is the entries of a list from one index on, up to, but not including, another one.
type span struct {
	from int
	to   int
}

// firstHalf returns the greatest power of two that is less than n, which is 2 or more.
func firstHalf(n int) int {
	return 1 << (bits.Len(uint(n-1)) - 1)
}

// descend halves a list of n entries, again and again keeping the half with the entry i, down to the first list that is the end, which one entry alone must be. It returns that list, and the halves that were not kept, the last one first.
func descend(n, i int, isEnd func(span) bool) (span, []span) {
	list := span{0, n}
	var beside []span
	for !isEnd(list) {
		middle := list.from + firstHalf(list.to-list.from)
		kept, other := span{list.from, middle}, span{middle, list.to}
		if i >= middle {
			kept, other = other, kept
		}
		list, beside = kept, append(beside, other)
	}
	slices.Reverse(beside)
	return list, beside
}

// besideEntry returns the lists beside the entry i of n entries, the lowest one first.
func besideEntry(n, i int) []span {
	_, beside := descend(n, i, func(list span) bool { return list.to-list.from == 1 })
	return beside
}

// besideBeginning returns the greatest list in the tree of n entries whose last entry is that of the first m, which are 1 or more, and the lists beside it, the lowest one first. That list begins the whole one exactly if no half before it was left out.
func besideBeginning(n, m int) (span, []span) {
	return descend(n, m-1, func(list span) bool { return list.to == m })
}

// roots returns the roots of lists of entries of l.
func roots(l []string, lists []span) []string {
	all := make([]string, len(lists))
	for i, list := range lists {
		all[i] = Root(l[list.from:list.to])
	}
	return all
}
