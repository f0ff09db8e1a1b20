package wire

import (
	"iter"

	"nadir/api"
)

const (
	groupBits  = 7
	groupMask  = 1<<groupBits - 1
	moreFollow = 1 << groupBits

	// maxFolded is what the greatest integer is folded to; it fits in maxGroups groups.
	maxFolded = 2 * api.MaxInt
	maxGroups = 9
)

// fold maps the integers to those from 0 on, so that small ones of either sign have few groups.
func fold(n int) int {
	if n < 0 {
		return -2*n - 1
	}
	return 2 * n
}

func unfold(z int) int {
	if z%2 == 1 {
		return -(z + 1) / 2
	}
	return z / 2
}

// encode returns the encoding of an integer from -MaxInt to MaxInt.
func encode(n int) string {
	var code []byte
	for group, more := range groups(fold(n)) {
		if more {
			group += moreFollow
		}
		code = append(code, group)
	}
	return string(code)
}

// groups yields the groups of z, the least significant first, each with whether more follow.
func groups(z int) iter.Seq2[byte, bool] {
	return func(yield func(byte, bool) bool) {
		for rest := z; ; rest >>= groupBits {
			more := rest > groupMask
			if !yield(byte(rest&groupMask), more) || !more {
				return
			}
		}
	}
}

// join returns the number whose groups begin at the offset at of s, and the offset after them; false if they do not end, if there are more than maxGroups, or if the last one is superfluous.
func join(s string, at int) (z, next int, ok bool) {
	for i := range min(maxGroups, len(s)-at) {
		b := s[at+i]
		z |= int(b&groupMask) << (groupBits * i)
		if b < moreFollow {
			superfluous := b == 0 && i > 0
			return z, at + i + 1, !superfluous
		}
	}
	return 0, 0, false
}
