package globe_test

import (
	"math"
	"math/big"
	"math/rand"
	"testing"

	"nadir/api"
	"nadir/globe"
)

// grid says of each cell, by row and column, whether an area has it. The expectations of the tests are computed with grids, cell by cell, which share no code with the package.
type grid [24][48]bool

func cell(x, y int) api.Cell {
	return api.Cell{X: x, Y: y}
}

// everyCell are all cells of the globe, in order.
func everyCell() []api.Cell {
	var all []api.Cell
	for y := 0; y < 24; y++ {
		for x := 0; x < 48; x++ {
			all = append(all, cell(x, y))
		}
	}
	return all
}

// with returns the grid with some more cells.
func (g grid) with(l ...api.Cell) grid {
	for _, c := range l {
		g[c.Y][c.X] = true
	}
	return g
}

// list returns the cells of g, in order.
func (g grid) list() []api.Cell {
	var l []api.Cell
	for _, c := range everyCell() {
		if g[c.Y][c.X] {
			l = append(l, c)
		}
	}
	return l
}

// area returns the area with the cells of g.
func (g grid) area() api.Area {
	rows := make([]int, 24)
	for _, c := range g.list() {
		rows[c.Y] += 1 << c.X
	}
	return api.Area{Rows: rows}
}

// joined returns the cells that keep keeps, by whether g and h have them.
func (g grid) joined(h grid, keep func(inG, inH bool) bool) grid {
	var joined grid
	for _, c := range everyCell() {
		joined[c.Y][c.X] = keep(g[c.Y][c.X], h[c.Y][c.X])
	}
	return joined
}

// moved returns c, so many columns farther east.
func moved(c api.Cell, columns int) api.Cell {
	x := new(big.Int).Add(big.NewInt(int64(c.X)), big.NewInt(int64(columns)))
	// The modulus of big.Int is never negative.
	return cell(int(x.Mod(x, big.NewInt(48)).Int64()), c.Y)
}

// shifted returns the cells of g, so many columns farther east.
func (g grid) shifted(columns int) grid {
	var shifted grid
	for _, c := range g.list() {
		shifted = shifted.with(moved(c, columns))
	}
	return shifted
}

// steps counts the columns from one to another one, eastward.
func steps(from, to int) int {
	n := 0
	for ; from != to; n++ {
		from++
		if from == 48 {
			from = 0
		}
	}
	return n
}

// distance returns the distance of two valid cells.
func distance(a, b api.Cell) int {
	rows := a.Y - b.Y
	if rows < 0 {
		rows = -rows
	}
	return max(rows, min(steps(a.X, b.X), steps(b.X, a.X)))
}

// nearest returns how far the nearest cell of g is from each cell, measured by a distance; 25 if g has none.
func (g grid) nearest(distance func(a, b api.Cell) int) [24][48]int {
	var nearest [24][48]int
	cells := g.list()
	for _, c := range everyCell() {
		nearest[c.Y][c.X] = 25
		for _, d := range cells {
			nearest[c.Y][c.X] = min(nearest[c.Y][c.X], distance(c, d))
		}
	}
	return nearest
}

// edges are grids at the ends of the globe: none, all, single cells, columns and rows, and what goes around.
func edges() []grid {
	full, board := grid{}.with(everyCell()...), grid{}
	for _, c := range everyCell() {
		board[c.Y][c.X] = (c.X+c.Y)%2 == 0
	}
	all := []grid{{}, full, board, grid{}.with(cell(46, 3), cell(47, 3), cell(0, 3), cell(1, 3), cell(46, 4), cell(47, 4), cell(0, 4), cell(1, 4))}
	for _, c := range []api.Cell{cell(0, 0), cell(47, 0), cell(0, 23), cell(47, 23), cell(23, 11), cell(24, 12), cell(31, 0), cell(32, 23)} {
		all = append(all, grid{}.with(c))
	}
	for _, x := range []int{0, 24, 47} {
		var g grid
		for y := range g {
			g[y][x] = true
		}
		all = append(all, g)
	}
	for _, y := range []int{0, 12, 23} {
		var g grid
		for x := range g[y] {
			g[y][x] = true
		}
		all = append(all, g)
	}
	return all
}

// random returns a grid with about one cell in so many.
func random(r *rand.Rand, in int) grid {
	var g grid
	for _, c := range everyCell() {
		g[c.Y][c.X] = r.Intn(in) == 0
	}
	return g
}

// grids are the edges, and random ones, from dense to nearly empty.
func grids(r *rand.Rand) []grid {
	all := edges()
	for _, in := range []int{2, 3, 10, 50, 300, 700} {
		all = append(all, random(r, in), random(r, in))
	}
	return all
}

// areas are the areas of grids.
func areas(seed int64) []api.Area {
	var all []api.Area
	for _, g := range grids(rand.New(rand.NewSource(seed))) {
		all = append(all, g.area())
	}
	return all
}

// badCells are cells outside of the globe, on all sides.
func badCells() []api.Cell {
	var all []api.Cell
	for _, x := range []int{-1, 48, -48, 64, math.MinInt, math.MaxInt, 1 << 32} {
		for _, y := range []int{0, 5, 23} {
			all = append(all, cell(x, y))
		}
	}
	for _, y := range []int{-1, 24, -24, 48, math.MinInt, math.MaxInt, 1 << 32} {
		for _, x := range []int{0, 5, 23, 47, -1, 48} {
			all = append(all, cell(x, y))
		}
	}
	return all
}

// badRows are rows that no valid area has.
func badRows() []int {
	return []int{-1, -1 << 47, -1 << 48, math.MinInt, 1 << 48, 1<<48 + 1, 1<<49 - 1, 1 << 62, math.MaxInt}
}

// badAreas are areas that are not valid: with too few or too many rows, or with a bad one, at each place.
func badAreas() []api.Area {
	all := []api.Area{{}, {Rows: []int{}}}
	for _, n := range []int{1, 12, 23, 25, 48, 1000} {
		full := make([]int, n)
		for i := range full {
			full[i] = 1<<48 - 1
		}
		all = append(all, api.Area{Rows: make([]int, n)}, api.Area{Rows: full})
	}
	for _, row := range badRows() {
		for y := range 24 {
			rows := make([]int, 24)
			rows[y] = row
			all = append(all, api.Area{Rows: rows})
		}
	}
	return all
}

// shifts are numbers of columns: all near 0, and those at the ends of the ints.
func shifts() []int {
	all := []int{math.MinInt, math.MinInt + 1, math.MinInt + 47, math.MaxInt - 47, math.MaxInt - 1, math.MaxInt, 1 << 32, -1 << 32, 1e6 + 7, -1e6 - 7}
	for n := -100; n <= 100; n++ {
		all = append(all, n)
	}
	return all
}

// must returns a function that returns an area that is there without an error, and is valid.
func must(t *testing.T) func(api.Area, api.Errno) api.Area {
	return func(a api.Area, err api.Errno) api.Area {
		t.Helper()
		if err != api.OK || !globe.Valid(a) {
			t.Fatalf("error %d, %x", err, a.Rows)
		}
		return a
	}
}

// result is what a call returned.
type result struct {
	area api.Area
	err  api.Errno
}

func got(a api.Area, err api.Errno) result {
	return result{a, err}
}

// check checks that the result is the area of the grid.
func (r result) check(t *testing.T, want grid, name string, numbers ...int) {
	t.Helper()
	if r.err != api.OK || !globe.Same(r.area, want.area()) {
		t.Errorf("%s %d: error %d, %x; want %x", name, numbers, r.err, r.area.Rows, want.area().Rows)
	}
}

// refused checks that there is an error and no area.
func (r result) refused(t *testing.T, name string, numbers ...int) {
	t.Helper()
	if r.err != api.ErrGlobe || len(r.area.Rows) != 0 {
		t.Errorf("%s %d: error %d, %x", name, numbers, r.err, r.area.Rows)
	}
}
