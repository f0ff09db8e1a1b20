package integer

import (
	"strings"

	"nadir/api"
)

// number is an integer of any size: its absolute value, and whether it is negative, which 0 is not.
type number struct {
	negative bool
	size     natural
}

// signed returns a number that is negative if it is not 0.
func signed(negative bool, size natural) number {
	return number{negative && len(size) > 0, size}
}

// numberOf returns the number s; false if s is not a valid integer.
func numberOf(s string) (number, bool) {
	if !Valid(s) {
		return number{}, false
	}
	digits, negative := strings.CutPrefix(s, "-")
	return number{negative, naturalOf(digits)}, true
}

// numbersOf returns the numbers a and b; false if one of them is not a valid integer.
func numbersOf(a, b string) (x, y number, ok bool) {
	x, okX := numberOf(a)
	y, okY := numberOf(b)
	return x, y, okX && okY
}

// integer returns the integer n, unless it has too many digits.
func (n number) integer() (string, api.Errno) {
	digits := n.size.text()
	if len(digits) > api.MaxDigits {
		return "", api.ErrInteger
	}
	if n.negative {
		return "-" + digits, api.OK
	}
	return digits, api.OK
}

func (n number) isZero() bool {
	return len(n.size) == 0
}

func (n number) negated() number {
	return signed(!n.negative, n.size)
}

func (n number) compare(m number) int {
	switch {
	case n.negative && m.negative:
		return m.size.compare(n.size)
	case n.negative:
		return -1
	case m.negative:
		return 1
	}
	return n.size.compare(m.size)
}

func (n number) plus(m number) number {
	if n.negative == m.negative {
		return signed(n.negative, n.size.plus(m.size))
	}
	if n.size.compare(m.size) < 0 {
		n, m = m, n
	}
	return signed(n.negative, n.size.minus(m.size))
}

func (n number) minus(m number) number {
	return n.plus(m.negated())
}

func (n number) times(m number) number {
	return signed(n.negative != m.negative, n.size.times(m.size))
}

// dividedBy returns the quotient and the remainder of n by d, which is not 0.
func (n number) dividedBy(d number) (number, natural) {
	quotient, remainder := n.size.dividedBy(d.size)
	if n.negative && len(remainder) > 0 {
		// A remainder must not be negative: one more divisor is taken, and what that is too much is the remainder.
		quotient, remainder = quotient.plus(natural{1}), d.size.minus(remainder)
	}
	return signed(n.negative != d.negative, quotient), remainder
}

func (n number) gcd(m number) number {
	return signed(false, n.size.gcd(m.size))
}
