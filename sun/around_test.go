package sun_test

import (
	"testing"

	"nadir/api"
	"nadir/globe"
	"nadir/sun"
)

// heightsOf returns the heights of all cells of the globe at a minute, by row and column.
func heightsOf(t *testing.T, k int) [24][48]int {
	t.Helper()
	var all [24][48]int
	for _, c := range everyCell() {
		all[c.Y][c.X] = good(t)(sun.Height(c, k))
	}
	return all
}

// P6.2: on one day, the height above a cell of a row depends only on how far west of noon its column is.
func TestHeightWestOfNoon(t *testing.T) {
	for _, d := range []int{0, 45, 91, 271} {
		// By row and by how far west: the height and 91 more, so that 0 means that there was none yet.
		var seen [24][48000]int
		for k := d * dayLong; k < (d+1)*dayLong; k++ {
			noon, heights := good(t)(sun.Noon(k)), heightsOf(t, k)
			for _, c := range everyCell() {
				west := (noon - (1000*c.X + 500) + 48000) % 48000
				h := heights[c.Y][c.X] + 91
				if before := seen[c.Y][west]; before != 0 && before != h {
					t.Fatalf("%v at %d, %d west of noon: %d, before %d", c, k, west, h-91, before-91)
				}
				seen[c.Y][west] = h
			}
		}
	}
}

// eastward returns c, so many columns farther east, around.
func eastward(t *testing.T, c api.Cell, columns int) api.Cell {
	t.Helper()
	a, err := globe.Shifted(of(t, c), columns)
	cells := globe.Cells(a)
	if err != api.OK || len(cells) != 1 {
		t.Fatalf("%v, shifted by %d: error %d, %v", c, columns, err, cells)
	}
	return cells[0]
}

// P6.2: moving a cell eastward is moving the time forward, by 30 minutes a column, within the day.
func TestHeightEastward(t *testing.T) {
	for _, d := range []int{0, 90, 91, 180, 271, 359, 693} {
		for _, c := range []api.Cell{cell(0, 0), cell(0, 12), cell(5, 7), cell(23, 23), cell(24, 11), cell(47, 12), cell(47, 3)} {
			for n := range 48 {
				moved := eastward(t, c, n)
				for m := 0; m+30*n < dayLong; m++ {
					k := d*dayLong + m
					if good(t)(sun.Height(moved, k)) != good(t)(sun.Height(c, k+30*n)) {
						t.Fatalf("%v by %d columns, at %d", c, n, k)
					}
				}
			}
		}
	}
}

// minutesOfYear are some minutes of each day of a year, at other times of day each day, and edges.
func minutesOfYear() []int {
	all := edgeMinutes()
	for d := range year {
		all = append(all, d*dayLong+d*7%dayLong, d*dayLong+(d*389+11)%dayLong)
	}
	return all
}

// P6.3: of the cells of a row, those nearest to noon have the greatest height, and of those of a column, those nearest to the season.
func TestHeightNearest(t *testing.T) {
	for _, k := range minutesOfYear() {
		noon, season, heights := good(t)(sun.Noon(k)), good(t)(sun.Season(k)), heightsOf(t, k)
		var rows [24]int
		var columns [48]int
		nearestColumn, nearestRow := 48000, 24000
		for y := range rows {
			rows[y] = -91
			nearestRow = min(nearestRow, along(y, season))
		}
		for x := range columns {
			columns[x] = -91
			nearestColumn = min(nearestColumn, around(x, noon))
		}
		for _, c := range everyCell() {
			rows[c.Y] = max(rows[c.Y], heights[c.Y][c.X])
			columns[c.X] = max(columns[c.X], heights[c.Y][c.X])
		}
		for _, c := range everyCell() {
			h := heights[c.Y][c.X]
			if around(c.X, noon) == nearestColumn && h != rows[c.Y] || along(c.Y, season) == nearestRow && h != columns[c.X] {
				t.Fatalf("%v at %d is nearest, and has the height %d; of its row %d, of its column %d", c, k, h, rows[c.Y], columns[c.X])
			}
		}
	}
}

// P6.3: one cell farther away, the height is lower by 7 or 8 degrees, as long as it is not -90.
func TestHeightFarther(t *testing.T) {
	sevens, eights := 0, 0
	for _, k := range minutesOfYear() {
		noon, season, heights := good(t)(sun.Noon(k)), good(t)(sun.Season(k)), heightsOf(t, k)
		lowered := func(c, far api.Cell) {
			switch low := heights[far.Y][far.X]; heights[c.Y][c.X] - low {
			case 7:
				sevens++
			case 8:
				eights++
			default:
				if low != -90 {
					t.Fatalf("from %v to %v at %d: from %d to %d", c, far, k, heights[c.Y][c.X], low)
				}
			}
		}
		for _, c := range everyCell() {
			for _, far := range []api.Cell{cell((c.X+1)%48, c.Y), cell((c.X+47)%48, c.Y)} {
				if around(far.X, noon) == around(c.X, noon)+1000 {
					lowered(c, far)
				}
			}
			for _, far := range []api.Cell{cell(c.X, c.Y+1), cell(c.X, c.Y-1)} {
				if globe.ValidCell(far) && along(far.Y, season) == along(c.Y, season)+1000 {
					lowered(c, far)
				}
			}
		}
	}
	if sevens == 0 || eights == 0 {
		t.Errorf("%d times by 7, %d times by 8", sevens, eights)
	}
}

// noonAbove returns the minute of the day at which the sun is above the middle of a column.
func noonAbove(x int) int {
	return 1440 - (15 + 30*x)
}

// P6.4: from noon above a cell on, for 12 hours of the same day, the height never rises; before it, for 12 hours, it never falls.
func TestHeightFromNoon(t *testing.T) {
	for _, d := range []int{0, 90, 180, 271, 346, 693} {
		for _, c := range everyCell() {
			n := noonAbove(c.X)
			if noon := good(t)(sun.Noon(d*dayLong + n)); noon != 1000*c.X+500 {
				t.Fatalf("at %d of the day %d, the sun is above %d, not above %v", n, d, noon, c)
			}
			before := good(t)(sun.Height(c, d*dayLong+max(0, n-720)))
			for m := max(0, n-720); m <= min(1439, n+720); m++ {
				h := good(t)(sun.Height(c, d*dayLong+m))
				if m <= n && h < before || m > n && h > before {
					t.Fatalf("%v at %d of the day %d: %d, after %d; noon is at %d", c, m, d, h, before, n)
				}
				before = h
			}
		}
	}
}
