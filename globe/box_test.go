package globe_test

import (
	"math"
	"testing"

	"nadir/api"
	"nadir/globe"
)

// plainBox returns the cells of a box.
func plainBox(c api.Cell, wide, high int) grid {
	var g grid
	for x := range wide {
		for y := range high {
			g = g.with(moved(cell(c.X, c.Y+y), x))
		}
	}
	return g
}

// P5.1, P5.6: the boxes of all widths, and all heights that are left, have wide times high cells, and these.
func TestBox(t *testing.T) {
	for _, x := range []int{0, 1, 24, 46, 47} {
		for _, y := range []int{0, 1, 11, 22, 23} {
			for wide := 1; wide <= 48; wide++ {
				for high := 1; high <= 24-y; high++ {
					b, err := globe.Box(cell(x, y), wide, high)
					if globe.Count(b) != wide*high {
						t.Errorf("box of %d, %d, %d by %d: %d cells", x, y, wide, high, globe.Count(b))
					}
					if high < 3 || high == 24-y {
						got(b, err).check(t, plainBox(cell(x, y), wide, high), "Box", x, y, wide, high)
					}
				}
			}
		}
	}
}

// P5.1: the example of the chapter.
func TestBoxExample(t *testing.T) {
	want := grid{}.with(cell(46, 3), cell(47, 3), cell(0, 3), cell(1, 3), cell(46, 4), cell(47, 4), cell(0, 4), cell(1, 4))
	got(globe.Box(cell(46, 3), 4, 2)).check(t, want, "Box")
}

// P5.1: each cell begins boxes: of a single cell, and of all that is left.
func TestBoxCells(t *testing.T) {
	for _, c := range everyCell() {
		got(globe.Box(c, 1, 1)).check(t, grid{}.with(c), "Box", c.X, c.Y)
		all := must(t)(globe.Box(c, 48, 24-c.Y))
		for _, d := range everyCell() {
			if globe.Has(all, d) != (d.Y >= c.Y) {
				t.Fatalf("the box of all that is left from %v: %v", c, d)
			}
		}
	}
}

// P5.1: no box begins outside of the globe, or has sides outside of their bounds.
func TestBoxInvalid(t *testing.T) {
	for _, c := range badCells() {
		got(globe.Box(c, 1, 1)).refused(t, "Box", c.X, c.Y)
	}
	sides := []int{0, -1, -48, math.MinInt, math.MaxInt, 1 << 32}
	for _, c := range []api.Cell{cell(0, 0), cell(47, 0), cell(5, 11), cell(0, 23), cell(47, 23)} {
		for _, wide := range append(sides, 49, 64, 96) {
			got(globe.Box(c, wide, 1)).refused(t, "Box", c.X, c.Y, wide)
		}
		for _, high := range append(sides, 25-c.Y, 24-c.Y+24, math.MaxInt-23) {
			got(globe.Box(c, 1, high)).refused(t, "Box", c.X, c.Y, 1, high)
			got(globe.Box(c, 48, high)).refused(t, "Box", c.X, c.Y, 48, high)
		}
	}
}

// P5.6: two boxes side by side are one box, as long as they are not more than once around; and they have no common cell.
func TestBoxesSideBySide(t *testing.T) {
	for _, c := range []api.Cell{cell(0, 0), cell(47, 3), cell(20, 21)} {
		for _, high := range []int{1, 3} {
			for wide := 1; wide < 48; wide++ {
				for more := 1; wide+more <= 48; more++ {
					one := must(t)(globe.Box(c, wide, high))
					two := must(t)(globe.Box(moved(c, wide), more, high))
					both := must(t)(globe.Box(c, wide+more, high))
					checkTwo(t, one, two, both, c.X, c.Y, wide, more, high)
				}
			}
		}
	}
}

// P5.6: two boxes one above the other are one box.
func TestBoxesAbove(t *testing.T) {
	for _, c := range []api.Cell{cell(0, 0), cell(45, 0), cell(20, 13)} {
		for _, wide := range []int{1, 5, 48} {
			for high := 1; c.Y+high < 24; high++ {
				for more := 1; c.Y+high+more <= 24; more++ {
					one := must(t)(globe.Box(c, wide, high))
					two := must(t)(globe.Box(cell(c.X, c.Y+high), wide, more))
					both := must(t)(globe.Box(c, wide, high+more))
					checkTwo(t, one, two, both, c.X, c.Y, wide, high, more)
				}
			}
		}
	}
}

// checkTwo checks that one and two are both, and have no common cell.
func checkTwo(t *testing.T, one, two, both api.Area, numbers ...int) {
	t.Helper()
	union, meet := must(t)(globe.Union(one, two)), must(t)(globe.Meet(one, two))
	if !globe.Same(union, both) || globe.Count(meet) != 0 || globe.Count(one)+globe.Count(two) != globe.Count(both) {
		t.Errorf("%d: %x and %x are %x", numbers, one.Rows, two.Rows, both.Rows)
	}
}
