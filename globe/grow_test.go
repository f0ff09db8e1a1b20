package globe_test

import (
	"math"
	"math/rand"
	"testing"

	"nadir/api"
	"nadir/globe"
)

// P5.1: what is grown, by each distance, has the cells that are near enough, one by one.
func TestGrown(t *testing.T) {
	for _, g := range grids(rand.New(rand.NewSource(40))) {
		nearest := g.nearest(distance)
		for n := range 25 {
			var want grid
			for _, c := range everyCell() {
				want[c.Y][c.X] = nearest[c.Y][c.X] <= n
			}
			got(globe.Grown(g.area(), n)).check(t, want, "Grown", n)
		}
	}
}

// P5.1: of a single cell, all cells around, as far as the globe goes: 15 of the first cell by 2, as the chapter says.
func TestGrownCells(t *testing.T) {
	for _, c := range everyCell() {
		one := must(t)(globe.With(globe.Empty(), c))
		for n := range 25 {
			high := min(c.Y+n, 23) - max(c.Y-n, 0) + 1
			wide := min(2*n+1, 48)
			if count := globe.Count(must(t)(globe.Grown(one, n))); count != wide*high {
				t.Errorf("%v by %d: %d cells", c, n, count)
			}
		}
	}
	first := must(t)(globe.With(globe.Empty(), cell(0, 0)))
	if count := globe.Count(must(t)(globe.Grown(first, 2))); count != 15 {
		t.Errorf("the first cell by 2: %d cells", count)
	}
}

// P5.1: by distances outside of their bounds nothing grows.
func TestGrownInvalid(t *testing.T) {
	for i, a := range areas(41) {
		for _, n := range []int{-1, -24, 25, 26, 48, math.MinInt, math.MaxInt, 1 << 32} {
			got(globe.Grown(a, n)).refused(t, "Grown", i, n)
		}
	}
}

// P5.4: growing twice is growing once by the sum.
func TestGrownTwice(t *testing.T) {
	for i, a := range areas(42) {
		for m := 0; m <= 24; m++ {
			once := must(t)(globe.Grown(a, m))
			for n := 0; m+n <= 24; n++ {
				if !globe.Same(must(t)(globe.Grown(once, n)), must(t)(globe.Grown(a, m+n))) {
					t.Errorf("area %d by %d and %d", i, m, n)
				}
			}
		}
	}
}

// P5.4: a greater area grows to a greater one, and an area grows the more the greater the distance is.
func TestGrownGreater(t *testing.T) {
	all := areas(43)
	for i, a := range all {
		for n := 0; n <= 24; n++ {
			grown := must(t)(globe.Grown(a, n))
			if !globe.Contains(grown, a) || n < 24 && !globe.Contains(must(t)(globe.Grown(a, n+1)), grown) {
				t.Errorf("area %d by %d", i, n)
			}
			for j, b := range all {
				greater := must(t)(globe.Union(a, b))
				if !globe.Contains(must(t)(globe.Grown(greater, n)), grown) {
					t.Errorf("areas %d and %d by %d", i, j, n)
				}
			}
		}
	}
}

// P5.4: what is grown from a union is the union of what is grown.
func TestGrownUnion(t *testing.T) {
	all := areas(44)
	for _, n := range []int{0, 1, 2, 5, 12, 23, 24} {
		grown := func(a api.Area) api.Area { return must(t)(globe.Grown(a, n)) }
		for i, a := range all {
			for j, b := range all {
				if !globe.Same(grown(must(t)(globe.Union(a, b))), must(t)(globe.Union(grown(a), grown(b)))) {
					t.Errorf("areas %d and %d by %d", i, j, n)
				}
			}
		}
	}
}
