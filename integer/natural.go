package integer

import (
	"cmp"
	"slices"
	"sort"
	"strconv"
	"strings"
)

const (
	groupDigits = 4
	base        = 10000
)

// natural is a number from 0 on, in groups of four digits, the lowest one first. The last one is not 0, so that each number is one natural only; 0 has no groups. No method changes the groups of a natural, so two of them may share memory.
type natural []int

// naturalOf returns the number with the digits.
func naturalOf(digits string) natural {
	var groups []int
	for end := len(digits); end > 0; end -= groupDigits {
		group := []byte(digits[max(0, end-groupDigits):end])
		groups = append(groups, fold(group, 0, func(value int, digit byte) int {
			return 10*value + int(digit-'0')
		}))
	}
	return trimmed(groups)
}

// trimmed returns the number with the groups, of which the last ones may be 0.
func trimmed(groups []int) natural {
	n := len(groups)
	for n > 0 && groups[n-1] == 0 {
		n--
	}
	return groups[:n]
}

// carried returns the number that is the sum of the columns, each counted 10000 times as much as the one before it. Columns may be negative, but their sum is not; none is more than the product of two groups, so what is left to carry at last is one group.
func carried(columns []int) natural {
	groups := make([]int, 0, len(columns)+1)
	carry := 0
	for _, column := range columns {
		carry += column
		group := carry % base
		if group < 0 {
			group += base
		}
		groups, carry = append(groups, group), (carry-group)/base
	}
	return trimmed(append(groups, carry))
}

// text returns the digits of n.
func (n natural) text() string {
	var digits strings.Builder
	for _, group := range slices.Backward(n) {
		// With base added, a group keeps the zeros that it begins with.
		digits.WriteString(strconv.Itoa(base + group)[1:])
	}
	return cmp.Or(strings.TrimLeft(digits.String(), "0"), "0")
}

func (n natural) compare(m natural) int {
	if len(n) != len(m) {
		return cmp.Compare(len(n), len(m))
	}
	for i, group := range slices.Backward(n) {
		if group != m[i] {
			return cmp.Compare(group, m[i])
		}
	}
	return 0
}

func (n natural) plus(m natural) natural {
	if len(n) < len(m) {
		n, m = m, n
	}
	columns := slices.Clone(n)
	for i, group := range m {
		columns[i] += group
	}
	return carried(columns)
}

// minus returns n - m, where m is at most n.
func (n natural) minus(m natural) natural {
	columns := slices.Clone(n)
	for i, group := range m {
		columns[i] -= group
	}
	return carried(columns)
}

// timesGroup returns n times a number of at most four digits.
func (n natural) timesGroup(group int) natural {
	columns := slices.Clone(n)
	for i := range columns {
		columns[i] *= group
	}
	return carried(columns)
}

// shifted returns n with so many groups of zeros after it.
func (n natural) shifted(zeros int) natural {
	return trimmed(slices.Concat(make([]int, zeros), n))
}

// times returns the product of n and m, the sum of n times each group of m.
func (n natural) times(m natural) natural {
	rows := make([]natural, len(m))
	for i, group := range m {
		rows[i] = n.timesGroup(group).shifted(i)
	}
	return fold(rows, nil, natural.plus)
}

// dividedBy returns the quotient and the remainder of n by d, which is not 0.
func (n natural) dividedBy(d natural) (natural, natural) {
	// So many of the highest groups are certainly less than d.
	start := max(0, len(n)-(len(d)-1))
	quotient, rest := make([]int, start), n[start:]
	for i, group := range slices.Backward(n[:start]) {
		rest = trimmed(slices.Concat(natural{group}, rest))
		quotient[i] = rest.holds(d)
		rest = rest.minus(d.timesGroup(quotient[i]))
	}
	return trimmed(quotient), rest
}

// holds returns how many times d, which is not 0, is in n, if that has at most four digits.
func (n natural) holds(d natural) int {
	// The two highest groups of d, and what n has above the others, leave few numbers to search.
	low := max(0, len(d)-2)
	top, divisor := n.above(low), d.above(low)
	least, most := top/(divisor+1), min(top/divisor, base-1)
	multiple := d.timesGroup
	return least + sort.Search(most-least, func(more int) bool {
		return multiple(least+more+1).compare(n) > 0
	})
}

// above returns the number that n is without its lowest groups, of which at most three are left.
func (n natural) above(low int) int {
	value := 0
	for _, group := range slices.Backward(n[min(low, len(n)):]) {
		value = value*base + group
	}
	return value
}

// gcd returns the greatest common divisor of n and m, by Euclid's algorithm.
func (n natural) gcd(m natural) natural {
	for len(m) > 0 {
		_, rest := n.dividedBy(m)
		n, m = m, rest
	}
	return n
}

// root returns the greatest number whose square is not greater than n, by Newton's method: from a guess that is too great, the guesses fall until they are right.
func (n natural) root() natural {
	if len(n) == 0 {
		return nil
	}
	guess := natural{1}.shifted((len(n) + 1) / 2)
	for {
		quotient, _ := n.dividedBy(guess)
		next, _ := guess.plus(quotient).dividedBy(natural{2})
		if next.compare(guess) >= 0 {
			return guess
		}
		guess = next
	}
}

// fold returns what step makes of the start and the first element, of the result and the second one, and so on.
func fold[Element, Result any](l []Element, start Result, step func(Result, Element) Result) Result {
	result := start
	for _, x := range l {
		result = step(result, x)
	}
	return result
}
