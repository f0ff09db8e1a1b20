package globe_test

import (
	"math"
	"math/rand"
	"testing"

	"nadir/api"
	"nadir/globe"
)

// P5.1, P5.5: the distances of all cells; 0 for the same cell alone, and the same in both directions.
func TestNear(t *testing.T) {
	all := everyCell()
	for _, a := range all {
		for _, b := range all {
			near := globe.Near(a, b)
			if near != distance(a, b) {
				t.Errorf("%v and %v: %d", a, b, near)
			}
			if near != globe.Near(b, a) || (near == 0) != (a == b) {
				t.Errorf("%v and %v: %d, %d", a, b, near, globe.Near(b, a))
			}
		}
	}
}

// P5.1: the examples of the chapter, and the greatest distances.
func TestNearExamples(t *testing.T) {
	for _, x := range []struct {
		a, b api.Cell
		want int
	}{
		{cell(46, 3), cell(1, 5), 3}, {cell(0, 0), cell(24, 0), 24}, {cell(0, 0), cell(47, 0), 1}, {cell(0, 0), cell(23, 0), 23}, {cell(0, 0), cell(25, 0), 23},
		{cell(12, 0), cell(36, 23), 24}, {cell(12, 0), cell(12, 23), 23}, {cell(12, 23), cell(35, 0), 23}, {cell(47, 23), cell(47, 23), 0},
	} {
		if globe.Near(x.a, x.b) != x.want || globe.Near(x.b, x.a) != x.want {
			t.Errorf("%v and %v: %d, %d", x.a, x.b, globe.Near(x.a, x.b), globe.Near(x.b, x.a))
		}
	}
}

// P5.1: to and from cells outside of the globe there is no distance.
func TestNearInvalid(t *testing.T) {
	bad := badCells()
	for _, a := range bad {
		for _, b := range append(bad, cell(0, 0), cell(47, 23), cell(24, 12)) {
			if globe.Near(a, b) != -1 || globe.Near(b, a) != -1 {
				t.Errorf("%v and %v: %d, %d", a, b, globe.Near(a, b), globe.Near(b, a))
			}
		}
	}
}

// P5.5: the distance is never more than by way of a third cell.
func TestNearThird(t *testing.T) {
	all := everyCell()
	table := make([][]int, len(all))
	for i, a := range all {
		for _, b := range all {
			table[i] = append(table[i], globe.Near(a, b))
		}
	}
	r := rand.New(rand.NewSource(50))
	for i := range all {
		// Cells of all rows, in the first, in the last and in a random column.
		if x := all[i].X; x != 0 && x != 47 && r.Intn(48) > 0 {
			continue
		}
		for j, by := range table[i] {
			for k := range all {
				if table[i][k] > by+table[j][k] {
					t.Fatalf("%v and %v, by way of %v", all[i], all[k], all[j])
				}
			}
		}
	}
}

// P5.5: the distance does not change if both cells are shifted.
func TestNearShifted(t *testing.T) {
	all := everyCell()
	for _, n := range []int{1, -1, 13, 24, 47, 48, -100, math.MinInt, math.MaxInt} {
		var to []api.Cell
		for _, c := range all {
			to = append(to, globe.Cells(must(t)(globe.Shifted(grid{}.with(c).area(), n)))...)
		}
		for i, a := range all {
			for j, b := range all {
				if globe.Near(a, b) != globe.Near(to[i], to[j]) {
					t.Errorf("%v and %v, shifted by %d", a, b, n)
				}
			}
		}
	}
}

// P5.5: a cell is in the grown area exactly if some cell of the area is near enough.
func TestNearEnough(t *testing.T) {
	for i, g := range grids(rand.New(rand.NewSource(51))) {
		nearest := g.nearest(globe.Near)
		for n := range 25 {
			grown := must(t)(globe.Grown(g.area(), n))
			for _, c := range everyCell() {
				if globe.Has(grown, c) != (nearest[c.Y][c.X] <= n) {
					t.Errorf("grid %d by %d, %v: %t", i, n, c, globe.Has(grown, c))
				}
			}
		}
	}
}
