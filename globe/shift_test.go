package globe_test

import (
	"math"
	"math/big"
	"math/rand"
	"testing"

	"nadir/api"
	"nadir/globe"
)

// P5.1: each cell goes so many columns farther, by whatever number, and stays in its row.
func TestShifted(t *testing.T) {
	for _, g := range grids(rand.New(rand.NewSource(30))) {
		for _, n := range shifts() {
			got(globe.Shifted(g.area(), n)).check(t, g.shifted(n), "Shifted", n)
		}
	}
}

// P5.1: the example of the chapter, and single cells beside the column 0, in both directions.
func TestShiftedExamples(t *testing.T) {
	box := must(t)(globe.Box(cell(46, 3), 4, 2))
	want := must(t)(globe.Box(cell(1, 3), 4, 2))
	got(globe.Shifted(box, 3)).check(t, grid{}.with(globe.Cells(want)...), "Shifted", 3)
	for _, x := range []struct {
		from, by, to int
	}{{47, 1, 0}, {0, -1, 47}, {47, 49, 0}, {0, -49, 47}, {0, 47, 47}, {47, -47, 0}, {5, math.MinInt, 21}, {5, math.MaxInt, 36}} {
		a := grid{}.with(cell(x.from, 23))
		got(globe.Shifted(a.area(), x.by)).check(t, grid{}.with(cell(x.to, 23)), "Shifted", x.from, x.by)
	}
}

// sumAround returns a number of columns by which shifting is shifting by the exact sum of two others.
func sumAround(m, n int) int {
	sum := new(big.Int).Add(big.NewInt(int64(m)), big.NewInt(int64(n)))
	return int(sum.Rem(sum, big.NewInt(48)).Int64())
}

// P5.3: shifting by two numbers is shifting by their sum, also where that is not an int.
func TestShiftedTwice(t *testing.T) {
	for i, a := range areas(31) {
		for _, m := range shifts() {
			once := must(t)(globe.Shifted(a, m))
			for _, n := range []int{0, 1, -1, 17, 47, 48, -48, -95, 1e6 + 7, math.MinInt, math.MaxInt} {
				twice, sum := must(t)(globe.Shifted(once, n)), must(t)(globe.Shifted(a, sumAround(m, n)))
				if !globe.Same(twice, sum) {
					t.Errorf("area %d by %d and %d: %x, %x", i, m, n, twice.Rows, sum.Rows)
				}
			}
		}
	}
}

// P5.3: once around, in either direction or several times, nothing changes; a number and its opposite undo each other.
func TestShiftedAround(t *testing.T) {
	for i, a := range areas(32) {
		for _, n := range []int{0, 48, -48, 96, -96, 48 * 1e9, math.MinInt + 32, math.MaxInt - 31} {
			if s := must(t)(globe.Shifted(a, n)); !globe.Same(s, a) {
				t.Errorf("area %d by %d: %x", i, n, s.Rows)
			}
		}
		for n := -50; n <= 50; n++ {
			if s := must(t)(globe.Shifted(must(t)(globe.Shifted(a, n)), -n)); !globe.Same(s, a) {
				t.Errorf("area %d by %d and back: %x", i, n, s.Rows)
			}
		}
	}
}

// P5.3: shifted areas have as many cells, meet and grow as before they were shifted.
func TestShiftedBefore(t *testing.T) {
	all := areas(33)
	for i, a := range all {
		for _, n := range []int{1, -1, 5, 24, 47, 49, -1000, math.MinInt, math.MaxInt} {
			shifted := func(a api.Area) api.Area { return must(t)(globe.Shifted(a, n)) }
			if globe.Count(shifted(a)) != globe.Count(a) {
				t.Errorf("area %d by %d: %d cells", i, n, globe.Count(shifted(a)))
			}
			for j, b := range all {
				if !globe.Same(must(t)(globe.Meet(shifted(a), shifted(b))), shifted(must(t)(globe.Meet(a, b)))) {
					t.Errorf("areas %d and %d by %d", i, j, n)
				}
			}
			for _, by := range []int{0, 1, 2, 7, 23, 24} {
				if !globe.Same(must(t)(globe.Grown(shifted(a), by)), shifted(must(t)(globe.Grown(a, by)))) {
					t.Errorf("area %d by %d, grown by %d", i, n, by)
				}
			}
		}
	}
}
