package sun

import (
	"iter"

	"nadir/api"
)

// Places are counted in thousandths of a column or of a row.
const (
	thousand  = 1000
	turn      = api.MaxColumns * thousand
	middleRow = api.MaxRows / 2 * thousand
)

// zenith is the greatest height, in degrees; the least one is as far below the horizon.
const zenith = 90

// light says whether a cell is lit, and whether a satellite above it is in the dark. At dusk, neither is so.
type light [2]bool

var (
	day   = light{true, false}
	night = light{false, true}
)

// lightOf returns the light of a cell above which the sun has the height h.
func lightOf(h int) light {
	return light{h > 0, h < api.Shadow}
}

// isMinute reports whether t is a minute.
func isMinute(t int) bool {
	return 0 <= t && t <= api.MaxTime
}

// minutes yields the minutes of s, in order.
func minutes(s api.Spell) iter.Seq[int] {
	return func(yield func(int) bool) {
		for t := s.From; t < s.To; t++ {
			if !yield(t) {
				return
			}
		}
	}
}

// noon returns the place of the sun along the columns at the minute t.
func noon(t int) int {
	return (api.Day - t%api.Day) * 100 / 3 % turn
}

// season returns the place of the sun along the rows at the minute t.
func season(t int) int {
	const quarter = api.Year / 4
	days := t / api.Day % api.Year
	switch {
	case days > 3*quarter:
		days -= api.Year
	case days > quarter:
		days = 2*quarter - days
	}
	// Counted from the southernmost place, no number is negative, so that the division rounds down. The sun needs a quarter, in which nothing is rounded, from there to the middle row.
	return middleRow - api.Tilt + (days+quarter)*100/3
}

// height returns the height of the sun above the valid cell c at the minute t.
func height(c api.Cell, t int) int {
	distance := 0
	for _, along := range distances() {
		distance += along(c, t)
	}
	return max(zenith-distance*75/10000, -zenith)
}

// distances returns the functions that return how far the middle of a cell is from the sun at a minute: along the columns and along the rows.
func distances() [2]func(c api.Cell, t int) int {
	return [2]func(c api.Cell, t int) int{
		func(c api.Cell, t int) int {
			columns := apart(middle(c.X), noon(t))
			return min(columns, turn-columns)
		},
		func(c api.Cell, t int) int {
			return apart(middle(c.Y), season(t))
		},
	}
}

// middle returns the place of the middle of a column or of a row.
func middle(i int) int {
	return i*thousand + thousand/2
}

// apart returns by how much i and j differ.
func apart(i, j int) int {
	return max(i-j, j-i)
}
