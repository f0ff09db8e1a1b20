package sun_test

import (
	"math"
	"math/big"
	"testing"

	"nadir/api"
	"nadir/globe"
)

// The last minute, and the minutes of a day and the days of a year, as numbers.
const (
	last    = 1000000
	dayLong = 1440
	year    = 360
)

// model says where the sun is and how high. The expectations of the tests are computed with it: it walks through a day minute by minute, and through a year day by day, and shares no code with the package.
type model struct {
	// noons is where the sun stands along the columns, by minutes of a day; seasons, along the rows, by days of a year.
	noons   [dayLong]int
	seasons [year]int
	// heights is the height of the sun, by distance.
	heights []int
}

// fraction returns n / d.
func fraction(n, d int) *big.Rat {
	return big.NewRat(int64(n), int64(d))
}

// floor returns r, rounded down.
func floor(r *big.Rat) int {
	// Div of big.Int rounds down, as the denominator is positive.
	return int(new(big.Int).Div(r.Num(), r.Denom()).Int64())
}

// newModel returns the model.
func newModel() *model {
	m := new(model)
	place, step := fraction(48000, 1), fraction(100, 3)
	for i := range m.noons {
		m.noons[i] = floor(place) % 48000
		place.Sub(place, step)
	}
	place = fraction(12000, 1)
	for i := range m.seasons {
		m.seasons[i] = floor(place)
		if i < 90 || i >= 270 {
			place.Add(place, step)
		} else {
			place.Sub(place, step)
		}
	}
	for distance := 0; distance <= 24000+15000; distance++ {
		h := 90 - floor(fraction(distance*75, 10000))
		m.heights = append(m.heights, max(h, -90))
	}
	return m
}

// noon returns where the sun stands along the columns.
func (m *model) noon(t int) int {
	return m.noons[t%dayLong]
}

// season returns where the sun stands along the rows.
func (m *model) season(t int) int {
	return m.seasons[t/dayLong%year]
}

// around returns the distance of the middle of a column from a place, by the shorter way around.
func around(x, place int) int {
	east := place - (x*1000 + 500)
	if east < 0 {
		east += 48000
	}
	return min(east, 48000-east)
}

// along returns the distance of the middle of a row from a place.
func along(y, place int) int {
	if d := place - (y*1000 + 500); d > 0 {
		return d
	}
	return y*1000 + 500 - place
}

// height returns the height of the sun above c at t, where t may also lie behind the last minute.
func (m *model) height(c api.Cell, t int) int {
	return m.heights[around(c.X, m.noon(t))+along(c.Y, m.season(t))]
}

// lit says whether c is lit at t.
func (m *model) lit(c api.Cell, t int) bool {
	return m.height(c, t) >= 1
}

// next returns the first minute of t and the 1440 minutes after it, up to the last one, at which c is lit or not; -1 if there is none.
func (m *model) next(c api.Cell, t int, lit bool) int {
	for after := 0; after <= 1440 && t+after <= last; after++ {
		if m.lit(c, t+after) == lit {
			return t + after
		}
	}
	return -1
}

func cell(x, y int) api.Cell {
	return api.Cell{X: x, Y: y}
}

// everyCell are all cells of the globe, in order.
func everyCell() []api.Cell {
	var all []api.Cell
	for y := 0; y < 24; y++ {
		for x := 0; x < 48; x++ {
			all = append(all, cell(x, y))
		}
	}
	return all
}

// edgeDays are days at the turns of the year, of several years, and the last days.
func edgeDays() []int {
	return []int{0, 1, 15, 45, 89, 90, 91, 92, 179, 180, 181, 269, 270, 271, 272, 346, 358, 359, 360, 361, 449, 450, 451, 540, 541, 630, 631, 693}
}

// edgeMinutes are the first and the last minutes of days, those between at which the sun is above the end of a column, above its middle or half a turn away, and the last minute of all.
func edgeMinutes() []int {
	all := []int{last - 1, last, 694 * dayLong, 694*dayLong + 1}
	for _, d := range edgeDays() {
		for _, m := range []int{0, 1, 2, 14, 15, 16, 29, 30, 31, 705, 719, 720, 721, 1410, 1425, 1438, 1439} {
			all = append(all, d*dayLong+m)
		}
	}
	return all
}

// badMinutes are numbers that are no minutes.
func badMinutes() []int {
	return []int{-1, -2, -30, -1440, -518400, -last, last + 1, last + 2, last + 1440, 1 << 31, 1 << 32, -1 << 31, -1 << 32, 1 << 62, math.MinInt, math.MinInt + 1, math.MaxInt - 1440, math.MaxInt - 1, math.MaxInt}
}

// badCells are cells outside of the globe, on all sides.
func badCells() []api.Cell {
	var all []api.Cell
	for _, bad := range []int{-1, -24, -48, 64, 1000, 1 << 32, math.MinInt, math.MaxInt} {
		all = append(all, cell(bad, 0), cell(bad, 12), cell(bad, 23), cell(0, bad), cell(24, bad), cell(47, bad), cell(bad, bad))
	}
	return append(all, cell(48, 0), cell(48, 23), cell(0, 24), cell(47, 24), cell(48, 24), cell(-1, -1), cell(23, 47))
}

// box returns an area that is a box.
func box(t *testing.T, c api.Cell, wide, high int) api.Area {
	t.Helper()
	a, err := globe.Box(c, wide, high)
	if err != api.OK {
		t.Fatalf("no box from %v with %d columns and %d rows", c, wide, high)
	}
	return a
}

// of returns the area with some cells.
func of(t *testing.T, cells ...api.Cell) api.Area {
	t.Helper()
	a := globe.Empty()
	for _, c := range cells {
		with, err := globe.With(a, c)
		if err != api.OK {
			t.Fatalf("no area with %v", c)
		}
		a = with
	}
	return a
}

// good returns a function that returns a number that is there without an error.
func good(t *testing.T) func(int, api.Errno) int {
	return func(n int, err api.Errno) int {
		t.Helper()
		if err != api.OK {
			t.Fatalf("error %d", err)
		}
		return n
	}
}

// refused checks that there are an error and no numbers.
func refused(t *testing.T, name string, err api.Errno, numbers ...int) {
	t.Helper()
	if err != api.ErrSun {
		t.Errorf("%s: error %d", name, err)
	}
	for _, n := range numbers {
		if n != 0 {
			t.Errorf("%s: %d", name, numbers)
		}
	}
}
