package swath_test

import (
	"math"
	"math/rand"
	"slices"
	"testing"

	"nadir/api"
)

// last is the last minute, as a number.
const last = 1000000

// grid is cells of the globe, by rows and columns. The expectations of the tests are computed with grids and with place, minute by minute and cell by cell; they share no code with the package.
type grid [24][48]bool

// gridOf returns the cells of an area that must be valid.
func gridOf(t *testing.T, a api.Area) grid {
	t.Helper()
	if len(a.Rows) != 24 {
		t.Fatalf("an area with %d rows", len(a.Rows))
	}
	var g grid
	for y, row := range a.Rows {
		for x := range 48 {
			g[y][x] = row%2 == 1
			row /= 2
		}
		if row != 0 {
			t.Fatalf("an area with the row %x", a.Rows[y])
		}
	}
	return g
}

// area returns the cells of g as an area.
func (g grid) area() api.Area {
	a := api.Area{Rows: make([]int, 24)}
	for _, c := range g.cells() {
		a.Rows[c.Y] += 1 << c.X
	}
	return a
}

// cells returns the cells of g, in order.
func (g grid) cells() []api.Cell {
	var all []api.Cell
	for y := range g {
		for x, is := range g[y] {
			if is {
				all = append(all, cell(x, y))
			}
		}
	}
	return all
}

// with returns the cells of g or h.
func (g grid) with(h grid) grid {
	for y := range h {
		for x, is := range h[y] {
			g[y][x] = g[y][x] || is
		}
	}
	return g
}

// has says whether g has all cells of h.
func (g grid) has(h grid) bool {
	return g.with(h) == g
}

// east returns the cells of g, each one column farther to the east.
func (g grid) east() grid {
	var all grid
	for y := range g {
		for x, is := range g[y] {
			all[y][around(x+1)] = is
		}
	}
	return all
}

// around returns a column that is at most once around the globe too far.
func around(x int) int {
	switch {
	case x < 0:
		return x + 48
	case x > 47:
		return x - 48
	}
	return x
}

// of returns the grid with some cells.
func of(cells ...api.Cell) grid {
	var g grid
	for _, c := range cells {
		g[c.Y][c.X] = true
	}
	return g
}

// rows returns the cells of a column in some rows.
func rows(x int, ys ...int) grid {
	var g grid
	for _, y := range ys {
		g[y][x] = true
	}
	return g
}

func cell(x, y int) api.Cell {
	return api.Cell{X: x, Y: y}
}

func spell(from, to int) api.Spell {
	return api.Spell{From: from, To: to}
}

// place returns the cell in which the satellite of o is at m without a delay; m may lie before the minute 0.
func place(o api.Orbit, m int) api.Cell {
	// A revolution more, and some turns around the globe more, so that nothing is negative.
	u := (m + o.Period + o.Phase) % o.Period
	if u > o.Period/2 {
		u = o.Period - u
	}
	x := (50000*48000 + o.Node + o.Turn*m) % 48000
	return cell(x/1000, (o.Low+(o.High-o.Low)*2*u/o.Period)/1000)
}

// seen returns the cell that is shown at a minute, with a delay.
func seen(o api.Orbit, look, at, late int) api.Cell {
	c := place(o, at-late)
	c.X = around(c.X + look)
	return c
}

// shown returns what an exposure shows with a delay.
func shown(o api.Orbit, shot api.Spell, look, late int) grid {
	var g grid
	for at := shot.From; at < shot.To; at++ {
		c := seen(o, look, at, late)
		g[c.Y][c.X] = true
	}
	return g
}

// strip is what an exposure shows for sure, and possibly.
type strip struct {
	sure, can grid
}

// stripOf returns what an exposure shows with all delays, and with some.
func stripOf(o api.Orbit, shot api.Spell, look int) strip {
	var times [24][48]int
	for late := -o.Slack; late <= o.Slack; late++ {
		for y, row := range shown(o, shot, look, late) {
			for x, is := range row {
				if is {
					times[y][x]++
				}
			}
		}
	}
	var s strip
	for y := range times {
		for x, n := range times[y] {
			s.sure[y][x], s.can[y][x] = n == 2*o.Slack+1, n > 0
		}
	}
	return s
}

// example is the orbit of the chapter's examples.
func example() api.Orbit {
	return api.Orbit{Period: 200, Phase: 0, Low: 0, High: 20000, Node: 10000, Turn: 0, Slack: 1}
}

// with returns the orbit of the examples with a change.
func with(change func(*api.Orbit)) api.Orbit {
	o := example()
	change(&o)
	return o
}

// edgeOrbits are orbits with the least and the greatest elements, around the column 0, and with several Slacks.
func edgeOrbits() []api.Orbit {
	return []api.Orbit{
		example(),
		with(func(o *api.Orbit) { o.Slack = 0 }),
		with(func(o *api.Orbit) { o.Slack = 10 }),
		with(func(o *api.Orbit) { o.Phase, o.Slack = 199, 3 }),
		with(func(o *api.Orbit) { o.Node, o.Slack = 0, 2 }),
		with(func(o *api.Orbit) { o.Node, o.Slack = 47999, 2 }),
		with(func(o *api.Orbit) { o.Node, o.Turn, o.Slack = 47000, 500, 0 }),
		with(func(o *api.Orbit) { o.Node, o.Turn, o.Slack = 1000, -500, 1 }),
		with(func(o *api.Orbit) { o.Node, o.Turn, o.Slack = 0, -1, 5 }),
		with(func(o *api.Orbit) { o.Node, o.Turn, o.Slack = 47999, 1, 5 }),
		{Period: 20, Phase: 0, Low: 0, High: 1, Node: 0, Turn: -2000, Slack: 0},
		{Period: 20, Phase: 19, Low: 0, High: 23999, Node: 47999, Turn: 2000, Slack: 10},
		{Period: 2000, Phase: 0, Low: 0, High: 23999, Node: 0, Turn: -2000, Slack: 10},
		{Period: 2000, Phase: 1999, Low: 23998, High: 23999, Node: 47999, Turn: 2000, Slack: 10},
		{Period: 2000, Phase: 0, Low: 0, High: 1000, Node: 47000, Turn: 500, Slack: 0},
		// It does not leave its cell; it goes up, comes back, and does not leave its column; it goes around along one row.
		{Period: 60, Phase: 7, Low: 2000, High: 2999, Node: 7000, Turn: 0, Slack: 10},
		{Period: 20, Phase: 0, Low: 0, High: 23999, Node: 7000, Turn: 0, Slack: 10},
		{Period: 60, Phase: 0, Low: 2000, High: 2999, Node: 45000, Turn: 100, Slack: 4},
		{Period: 60, Phase: 0, Low: 2000, High: 2999, Node: 2000, Turn: -700, Slack: 2},
	}
}

// anyOrbit returns a valid orbit.
func anyOrbit(r *rand.Rand) api.Orbit {
	o := api.Orbit{Period: 20 + 2*r.Intn(991), Low: r.Intn(23999), Node: r.Intn(48000), Turn: r.Intn(4001) - 2000, Slack: r.Intn(11)}
	if r.Intn(2) == 0 {
		o.Period = 20 + 2*r.Intn(30)
	}
	o.Phase, o.High = r.Intn(o.Period), o.Low+1+r.Intn(23999-o.Low)
	switch r.Intn(4) {
	case 0:
		o.Turn /= 100
	case 1:
		o.Turn, o.High = o.Turn/10, min(o.High, o.Low+1+r.Intn(2000))
	case 2:
		o.Node = (48000 + r.Intn(6000) - 3000) % 48000
	}
	return o
}

// someOrbits are those at the edges, and others.
func someOrbits(seed int64, n int) []api.Orbit {
	all, r := edgeOrbits(), rand.New(rand.NewSource(seed))
	for range n {
		all = append(all, anyOrbit(r))
	}
	return all
}

// shots are of 1 minute, of 60, and of others, at the ends of time and between.
func shots() []api.Spell {
	return []api.Spell{
		spell(0, 1), spell(0, 2), spell(0, 60), spell(1, 2), spell(1, 61), spell(10, 20), spell(95, 105), spell(719, 721), spell(1410, 1470),
		spell(500000, 500001), spell(500000, 500007), spell(500000, 500060),
		spell(last, last+1), spell(last-1, last+1), spell(last-59, last+1), spell(last-60, last), spell(last-1, last), spell(last-12, last+1),
	}
}

// badNumbers are far below and far above everything.
func badNumbers() []int {
	return []int{math.MinInt, math.MinInt + 1, math.MinInt + 60, math.MinInt + 300, -1 << 32, 1 << 32, math.MaxInt - 300, math.MaxInt - 60, math.MaxInt - 1, math.MaxInt}
}

// badSpells are spells that are empty, turned around, outside of time, or have more than so many minutes.
func badSpells(most int) []api.Spell {
	all := []api.Spell{
		spell(0, 0), spell(5, 5), spell(last, last), spell(last+1, last+1),
		spell(5, 4), spell(1, 0), spell(most, 0), spell(last+1, last), spell(last+1, 0),
		spell(0, most+1), spell(1, most+2), spell(100, 101+most), spell(last-most, last+1), spell(0, last), spell(0, last+1), spell(0, 1<<32),
		spell(-1, -1), spell(-1, 0), spell(-1, 1), spell(-most, 0), spell(-1, most-1), spell(-2, -1),
		spell(last, last+2), spell(last+1, last+2), spell(last-most+2, last+2), spell(last+2, last+3), spell(last+2, last+1),
	}
	for _, end := range badNumbers() {
		for _, other := range []int{math.MinInt, -1, 0, 1, last, last + 1, math.MaxInt} {
			all = append(all, spell(end, other), spell(other, end))
		}
	}
	return all
}

// badOrbits are orbits that are not valid for one reason each.
func badOrbits() []api.Orbit {
	all := []api.Orbit{
		{},
		with(func(o *api.Orbit) { o.Period = 18 }), with(func(o *api.Orbit) { o.Period = 201 }), with(func(o *api.Orbit) { o.Period = 2002 }),
		with(func(o *api.Orbit) { o.Phase = -1 }), with(func(o *api.Orbit) { o.Phase = 200 }),
		with(func(o *api.Orbit) { o.Low = -1 }), with(func(o *api.Orbit) { o.Low = 20000 }),
		with(func(o *api.Orbit) { o.High = 24000 }), with(func(o *api.Orbit) { o.High = 0 }),
		with(func(o *api.Orbit) { o.Node = -1 }), with(func(o *api.Orbit) { o.Node = 48000 }),
		with(func(o *api.Orbit) { o.Turn = -2001 }), with(func(o *api.Orbit) { o.Turn = 2001 }),
		with(func(o *api.Orbit) { o.Slack = -1 }), with(func(o *api.Orbit) { o.Slack = 11 }),
	}
	for _, bad := range badNumbers() {
		all = append(all,
			with(func(o *api.Orbit) { o.Period = bad }), with(func(o *api.Orbit) { o.Phase = bad }), with(func(o *api.Orbit) { o.Low = bad }), with(func(o *api.Orbit) { o.High = bad }),
			with(func(o *api.Orbit) { o.Node = bad }), with(func(o *api.Orbit) { o.Turn = bad }), with(func(o *api.Orbit) { o.Slack = bad }),
		)
	}
	return all
}

// badLooks are numbers that are no looks.
func badLooks() []int {
	return append(badNumbers(), -5, 5, -6, 6, -48, 48, 44, -44)
}

// badAreas are areas that are not valid: with too few rows, with too many, and with rows outside of the globe.
func badAreas() []api.Area {
	all := []api.Area{{}, {Rows: []int{}}}
	for _, n := range []int{1, 12, 23, 25, 48} {
		all = append(all, api.Area{Rows: make([]int, n)}, api.Area{Rows: slices.Repeat([]int{1<<48 - 1}, n)})
	}
	for _, row := range []int{-1, math.MinInt, 1 << 48, 1<<48 + 1, math.MaxInt} {
		for _, y := range []int{0, 12, 23} {
			a := api.Area{Rows: make([]int, 24)}
			a.Rows[y] = row
			all = append(all, a)
		}
	}
	return all
}

// good returns a function that returns a result that is there without an error.
func good[R any](t *testing.T) func(R, api.Errno) R {
	return func(result R, err api.Errno) R {
		if err != api.OK {
			t.Helper()
			t.Fatalf("error %d", err)
		}
		return result
	}
}
