package globe_test

import (
	"math"
	"math/rand"
	"slices"
	"testing"

	"nadir/api"
	"nadir/globe"
)

// P5.1: the valid cells are those of 48 columns and 24 rows.
func TestValidCell(t *testing.T) {
	count, all := 0, everyCell()
	for y := -30; y <= 60; y++ {
		for x := -60; x <= 100; x++ {
			valid := globe.ValidCell(cell(x, y))
			if valid != slices.Contains(all, cell(x, y)) {
				t.Errorf("ValidCell(%d, %d) = %t", x, y, valid)
			}
			if valid {
				count++
			}
		}
	}
	if count != 48*24 {
		t.Errorf("%d cells are valid", count)
	}
	for _, c := range badCells() {
		if globe.ValidCell(c) {
			t.Errorf("%v is valid", c)
		}
	}
}

// P5.1: an area is valid if it has 24 rows, each from 0 to 2^48 - 1.
func TestValid(t *testing.T) {
	for i, a := range areas(1) {
		if !globe.Valid(a) {
			t.Errorf("area %d is not valid", i)
		}
	}
	for n := range 60 {
		if globe.Valid(api.Area{Rows: make([]int, n)}) != (n == 24) {
			t.Errorf("%d rows", n)
		}
	}
	for y := range 24 {
		for _, row := range []int{1, 1 << 47, 1<<48 - 1, 1<<48 - 2} {
			a := globe.Empty()
			a.Rows[y] = row
			if !globe.Valid(a) {
				t.Errorf("the row %d is %x, and the area not valid", y, row)
			}
		}
	}
	for _, a := range badAreas() {
		if globe.Valid(a) {
			t.Errorf("%x is valid", a.Rows)
		}
	}
}

// P5.1: the same areas have the same rows, valid or not.
func TestSame(t *testing.T) {
	all := append(areas(2), badAreas()...)
	for i, a := range all {
		for j, b := range all {
			if globe.Same(a, b) != slices.Equal(a.Rows, b.Rows) {
				t.Errorf("areas %d and %d: %t", i, j, globe.Same(a, b))
			}
		}
		if copied := (api.Area{Rows: slices.Clone(a.Rows)}); !globe.Same(a, copied) || !globe.Same(copied, a) {
			t.Errorf("area %d is not the same as itself", i)
		}
		longer := api.Area{Rows: append(slices.Clone(a.Rows), 0)}
		if globe.Same(a, longer) || globe.Same(longer, a) {
			t.Errorf("area %d is the same with one more row", i)
		}
	}
	if !globe.Same(api.Area{}, api.Area{Rows: []int{}}) || !globe.Same(api.Area{Rows: []int{}}, api.Area{}) {
		t.Error("no rows are not the same as no rows")
	}
}

// P5.1: one row that differs, at any place, makes areas differ.
func TestSameRows(t *testing.T) {
	for i, a := range areas(3) {
		for y := range 24 {
			b := api.Area{Rows: slices.Clone(a.Rows)}
			b.Rows[y] ^= 1 << (y * 2 % 48)
			if globe.Same(a, b) || globe.Same(b, a) {
				t.Errorf("area %d, row %d", i, y)
			}
		}
	}
}

// P5.1: the empty area is valid, with all rows, and has no cells.
func TestEmpty(t *testing.T) {
	a := globe.Empty()
	if len(a.Rows) != 24 || !globe.Valid(a) || globe.Count(a) != 0 || len(globe.Cells(a)) != 0 {
		t.Errorf("%x", a.Rows)
	}
}

// P5.1: what is not valid gives errors, and no results.
func TestInvalidAreas(t *testing.T) {
	good := []api.Area{globe.Empty(), random(rand.New(rand.NewSource(4)), 2).area()}
	for _, bad := range badAreas() {
		for i, other := range append(good, bad) {
			got(globe.Union(bad, other)).refused(t, "Union, bad first", i)
			got(globe.Union(other, bad)).refused(t, "Union, bad second", i)
			got(globe.Meet(bad, other)).refused(t, "Meet, bad first", i)
			got(globe.Meet(other, bad)).refused(t, "Meet, bad second", i)
			got(globe.Less(bad, other)).refused(t, "Less, bad first", i)
			got(globe.Less(other, bad)).refused(t, "Less, bad second", i)
			if globe.Contains(bad, other) || globe.Contains(other, bad) {
				t.Errorf("Contains of %x and area %d", bad.Rows, i)
			}
		}
		for _, n := range []int{0, 1, 24, -1, 48, 25} {
			got(globe.Shifted(bad, n)).refused(t, "Shifted", n)
			got(globe.Grown(bad, n)).refused(t, "Grown", n)
		}
		for _, c := range append(badCells(), everyCell()[:60]...) {
			got(globe.With(bad, c)).refused(t, "With", c.X, c.Y)
			if globe.Has(bad, c) {
				t.Errorf("%x has %v", bad.Rows, c)
			}
		}
		if globe.Count(bad) != 0 || len(globe.Cells(bad)) != 0 {
			t.Errorf("%x has cells", bad.Rows)
		}
	}
}

// P5.1: no function panics, and each has either a valid result or none, whatever its arguments are.
func TestAnyArguments(t *testing.T) {
	r := rand.New(rand.NewSource(5))
	number := func() int {
		ends := []int{math.MinInt, math.MaxInt, -1, 0, 1, 23, 24, 25, 47, 48, 49, 1<<48 - 1, 1 << 48}
		if r.Intn(2) == 0 {
			return ends[r.Intn(len(ends))]
		}
		return int(r.Uint64()) >> r.Intn(64)
	}
	anyArea := func() api.Area {
		if r.Intn(2) == 0 {
			return random(r, 1+r.Intn(9)).area()
		}
		a := api.Area{Rows: make([]int, 20+r.Intn(8))}
		for y := range a.Rows {
			a.Rows[y] = number()
		}
		return a
	}
	for range 3000 {
		a, b, c := anyArea(), anyArea(), cell(number(), number())
		n, m := number(), number()
		for i, x := range []result{
			got(globe.Box(c, n, m)), got(globe.With(a, c)), got(globe.Union(a, b)), got(globe.Meet(a, b)), got(globe.Less(a, b)), got(globe.Shifted(a, n)), got(globe.Grown(a, n)),
		} {
			if x.err == api.OK && globe.Valid(x.area) || x.err == api.ErrGlobe && len(x.area.Rows) == 0 {
				continue
			}
			t.Errorf("function %d of %x, %x, %v, %d, %d: error %d, %x", i, a.Rows, b.Rows, c, n, m, x.err, x.area.Rows)
		}
		if near := globe.Near(c, cell(n, m)); near < -1 || near > 24 {
			t.Errorf("Near of %v and %d, %d is %d", c, n, m, near)
		}
		if globe.Has(a, c) && !(globe.Valid(a) && globe.ValidCell(c)) || globe.Contains(a, b) && !(globe.Valid(a) && globe.Valid(b)) {
			t.Errorf("%x, %x, %v", a.Rows, b.Rows, c)
		}
	}
}
