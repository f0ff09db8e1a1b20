package globe_test

import (
	"cmp"
	"math/rand"
	"slices"
	"testing"

	"nadir/api"
	"nadir/globe"
)

// P5.1, P5.7: the cells of an area, by row, then by column, and how many there are.
func TestCells(t *testing.T) {
	for i, g := range grids(rand.New(rand.NewSource(20))) {
		l := globe.Cells(g.area())
		if !slices.Equal(l, g.list()) || globe.Count(g.area()) != len(g.list()) {
			t.Errorf("grid %d: %d cells, %v", i, globe.Count(g.area()), l)
		}
	}
}

// P5.7: cells are ascending, none twice.
func TestCellsAscending(t *testing.T) {
	for i, a := range areas(21) {
		l := globe.Cells(a)
		for j := 1; j < len(l); j++ {
			if order := cmp.Or(cmp.Compare(l[j-1].Y, l[j].Y), cmp.Compare(l[j-1].X, l[j].X)); order >= 0 {
				t.Errorf("area %d: %v before %v", i, l[j-1], l[j])
			}
		}
	}
}

// P5.7: the area of all cells, one after the other, in whichever order, is the area again.
func TestCellsAgain(t *testing.T) {
	r := rand.New(rand.NewSource(22))
	for i, a := range areas(23) {
		l := globe.Cells(a)
		for range 2 {
			again := globe.Empty()
			for _, c := range l {
				again = must(t)(globe.With(again, c))
			}
			if !globe.Same(again, a) {
				t.Errorf("area %d: %x is %x", i, a.Rows, again.Rows)
			}
			r.Shuffle(len(l), func(j, k int) { l[j], l[k] = l[k], l[j] })
		}
	}
}

// P5.7: each single cell is found, in the rows 0 and 23 and the columns 0 and 47 too.
func TestSingleCells(t *testing.T) {
	for _, c := range everyCell() {
		a := must(t)(globe.With(globe.Empty(), c))
		if l := globe.Cells(a); !slices.Equal(l, []api.Cell{c}) || globe.Count(a) != 1 {
			t.Errorf("%v: %v, %d cells", c, l, globe.Count(a))
		}
	}
}
