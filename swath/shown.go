package swath

import (
	"iter"

	"nadir/api"
	"nadir/globe"
	"nadir/orbit"
)

// isSpell reports whether s has minutes, at most so many, and none outside of time.
func isSpell(s api.Spell, most int) bool {
	return 0 <= s.From && s.From < s.To && s.To <= api.MaxTime+1 && s.To-s.From <= most
}

// delays yields the delays of a satellite on o, in order.
func delays(o api.Orbit) iter.Seq[int] {
	return func(yield func(int) bool) {
		for late := -o.Slack; late <= o.Slack; late++ {
			if !yield(late) {
				return
			}
		}
	}
}

// cells returns the cell that a valid exposure shows at each of its minutes, with the delay late.
func cells(o api.Orbit, shot api.Spell, look, late int) []api.Cell {
	var all []api.Cell
	for t := shot.From; t < shot.To; t++ {
		c, _ := orbit.At(o, t, late)
		all = append(all, api.Cell{X: (c.X + look + api.MaxColumns) % api.MaxColumns, Y: c.Y})
	}
	return all
}

// shown returns the cells that a valid exposure shows with the delay late.
func shown(o api.Orbit, shot api.Spell, look, late int) api.Area {
	return fold(cells(o, shot, look, late), globe.Empty(), globe.With)
}

// fold joins all of list, one after the other, to first; no error can come of what is valid.
func fold[E, A any](list []E, first A, join func(A, E) (A, api.Errno)) A {
	for _, e := range list {
		first, _ = join(first, e)
	}
	return first
}

// everywhere returns the area of all cells.
func everywhere() api.Area {
	a, _ := globe.Box(api.Cell{}, api.MaxColumns, api.MaxRows)
	return a
}

// belowTrack returns a function that returns what an exposure of so many minutes shows with the look 0, by the minute at which it begins and the delay. Being late by a minute more is being where one was a minute before, so that each area is computed once for all exposures and delays that have it.
func belowTrack(o api.Orbit, minutes int) func(from, late int) api.Area {
	known := map[int]api.Area{}
	return func(from, late int) api.Area {
		area, is := known[from-late]
		if !is {
			area = shown(o, api.Spell{From: from, To: from + minutes}, 0, late)
			known[from-late] = area
		}
		return area
	}
}

// lookFor returns the look nearest to 0, of those up to wide, the eastern one of two, with which the exposure that begins at from shows a for sure; false if there is none.
func lookFor(o api.Orbit, from, wide int, a api.Area, below func(from, late int) api.Area) (int, bool) {
	for columns := range wide + 1 {
	looks:
		for _, look := range []int{columns, -columns} {
			// With a look to the east, an exposure shows a if it shows, with the look 0, what is as many columns west of a.
			wanted, _ := globe.Shifted(a, -look)
			for late := range delays(o) {
				if !globe.Contains(below(from, late), wanted) {
					continue looks
				}
			}
			return look, true
		}
	}
	return 0, false
}
