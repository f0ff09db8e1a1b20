package orbit_test

import (
	"math"
	"math/big"
	"math/rand"
	"testing"

	"nadir/api"
)

// The last minute and the greatest delay, as numbers.
const (
	last = 1000000
	lag  = 10
)

// walk says where a satellite is. The expectations of the tests are computed with it: it goes along minute by minute, up, down and around, and shares no code with the package.
type walk struct {
	// rows and columns are those at all minutes at which a satellite can be without a delay, from 10 before the first one to 10 behind the last one.
	rows, columns []int
}

// rowsOf returns the rows of a revolution.
func rowsOf(o api.Orbit) []int {
	place, step := big.NewRat(int64(o.Low), 1), big.NewRat(int64(o.High-o.Low)*2, int64(o.Period))
	var rows []int
	for u := range o.Period {
		// No place is negative, so that this rounds down.
		rows = append(rows, int(new(big.Int).Quo(place.Num(), place.Denom()).Int64()))
		if u < o.Period/2 {
			place.Add(place, step)
		} else {
			place.Sub(place, step)
		}
	}
	return rows
}

// newWalk returns where the satellite of o is.
func newWalk(o api.Orbit) *walk {
	w := &walk{make([]int, lag+last+1+lag), make([]int, lag+last+1+lag)}
	rows, u, x := rowsOf(o), o.Phase, o.Node
	for range lag {
		u, x = u-1, x-o.Turn
		if u < 0 {
			u = o.Period - 1
		}
		x = backOnGlobe(x)
	}
	for i := range w.rows {
		w.rows[i], w.columns[i] = rows[u], x
		u, x = u+1, backOnGlobe(x+o.Turn)
		if u == o.Period {
			u = 0
		}
	}
	return w
}

// backOnGlobe returns a column that went at most once around the globe too far.
func backOnGlobe(x int) int {
	switch {
	case x < 0:
		return x + 48000
	case x > 47999:
		return x - 48000
	}
	return x
}

// row returns the row at t, with a delay.
func (w *walk) row(t, late int) int {
	return w.rows[lag+t-late]
}

// column returns the column at t, with a delay.
func (w *walk) column(t, late int) int {
	return w.columns[lag+t-late]
}

// cell returns the cell at t, with a delay.
func (w *walk) cell(t, late int) api.Cell {
	return cell(w.column(t, late)/1000, w.row(t, late)/1000)
}

// could returns the cells with all delays up to slack, in order.
func (w *walk) could(t, slack int) []api.Cell {
	var on [24][48]bool
	for late := -slack; late <= slack; late++ {
		c := w.cell(t, late)
		on[c.Y][c.X] = true
	}
	var all []api.Cell
	for y := range on {
		for x, is := range on[y] {
			if is {
				all = append(all, cell(x, y))
			}
		}
	}
	return all
}

func cell(x, y int) api.Cell {
	return api.Cell{X: x, Y: y}
}

// example is the orbit of the chapter's examples.
func example() api.Orbit {
	return api.Orbit{Period: 100, Phase: 0, Low: 2000, High: 22000, Node: 5000, Turn: 500, Slack: 1}
}

// with returns the orbit of the examples with a change.
func with(change func(*api.Orbit)) api.Orbit {
	o := example()
	change(&o)
	return o
}

// edgeOrbits are orbits with the least and the greatest elements, one by one and together.
func edgeOrbits() []api.Orbit {
	return []api.Orbit{
		example(),
		with(func(o *api.Orbit) { o.Period = 20 }),
		with(func(o *api.Orbit) { o.Period = 22 }),
		with(func(o *api.Orbit) { o.Period, o.Phase = 20, 19 }),
		with(func(o *api.Orbit) { o.Period = 2000 }),
		with(func(o *api.Orbit) { o.Period, o.Phase = 2000, 1999 }),
		with(func(o *api.Orbit) { o.Phase = 1 }),
		with(func(o *api.Orbit) { o.Phase = 50 }),
		with(func(o *api.Orbit) { o.Phase = 99 }),
		with(func(o *api.Orbit) { o.Low = 0 }),
		with(func(o *api.Orbit) { o.High = 23999 }),
		with(func(o *api.Orbit) { o.Low, o.High = 0, 23999 }),
		with(func(o *api.Orbit) { o.Low, o.High = 0, 1 }),
		with(func(o *api.Orbit) { o.Low, o.High = 23998, 23999 }),
		with(func(o *api.Orbit) { o.Low, o.High = 999, 1000 }),
		with(func(o *api.Orbit) { o.Node = 0 }),
		with(func(o *api.Orbit) { o.Node = 47999 }),
		with(func(o *api.Orbit) { o.Turn = 0 }),
		with(func(o *api.Orbit) { o.Turn = 1 }),
		with(func(o *api.Orbit) { o.Turn = -1 }),
		with(func(o *api.Orbit) { o.Turn = 2000 }),
		with(func(o *api.Orbit) { o.Turn = -2000 }),
		with(func(o *api.Orbit) { o.Node, o.Turn = 0, -1 }),
		with(func(o *api.Orbit) { o.Node, o.Turn = 47999, 1 }),
		with(func(o *api.Orbit) { o.Slack = 0 }),
		with(func(o *api.Orbit) { o.Slack = 10 }),
		{Period: 20, Phase: 0, Low: 0, High: 1, Node: 0, Turn: -2000, Slack: 0},
		{Period: 20, Phase: 19, Low: 0, High: 23999, Node: 47999, Turn: 2000, Slack: 10},
		{Period: 2000, Phase: 0, Low: 0, High: 23999, Node: 0, Turn: -2000, Slack: 10},
		{Period: 2000, Phase: 1999, Low: 23998, High: 23999, Node: 47999, Turn: 2000, Slack: 10},
		// It does not leave its cell; it goes up, comes back, and does not leave its column; it never is in a cell for two minutes.
		{Period: 60, Phase: 7, Low: 2000, High: 2999, Node: 7000, Turn: 0, Slack: 10},
		{Period: 20, Phase: 0, Low: 0, High: 23999, Node: 7000, Turn: 0, Slack: 10},
		{Period: 60, Phase: 0, Low: 2000, High: 22000, Node: 7000, Turn: 1000, Slack: 10},
	}
}

// anyOrbit returns a valid orbit.
func anyOrbit(r *rand.Rand) api.Orbit {
	o := api.Orbit{Period: 20 + 2*r.Intn(991), Low: r.Intn(23999), Node: r.Intn(48000), Turn: r.Intn(4001) - 2000, Slack: r.Intn(11)}
	if r.Intn(2) == 0 {
		o.Period = 20 + 2*r.Intn(30)
	}
	o.Phase, o.High = r.Intn(o.Period), o.Low+1+r.Intn(23999-o.Low)
	switch r.Intn(4) {
	case 0:
		o.Turn /= 100
	case 1:
		o.High = min(o.High, o.Low+1+r.Intn(500))
	}
	return o
}

// someOrbits are those at the edges, and others.
func someOrbits(seed int64, n int) []api.Orbit {
	all, r := edgeOrbits(), rand.New(rand.NewSource(seed))
	for range n {
		all = append(all, anyOrbit(r))
	}
	return all
}

// edgeMinutes are the first minutes of all, the last ones, and those around the turning points of some revolutions.
func edgeMinutes(o api.Orbit) []int {
	var all []int
	for t := range 25 {
		all = append(all, t, last-t)
	}
	for _, revolutions := range []int{2, 7, 400} {
		for _, u := range []int{0, o.Period / 4, o.Period / 2, o.Period * 3 / 4} {
			for _, beside := range []int{-2, -1, 0, 1, 2} {
				all = append(all, revolutions*o.Period-o.Phase+u+beside)
			}
		}
	}
	return all
}

// badOrbits are orbits that are not valid for one reason each.
func badOrbits() []api.Orbit {
	all := []api.Orbit{
		{},
		with(func(o *api.Orbit) { o.Low = o.High }),
		with(func(o *api.Orbit) { o.Low = o.High + 1 }),
		with(func(o *api.Orbit) { o.Low, o.High = 0, 0 }),
		with(func(o *api.Orbit) { o.Low, o.High = 23999, 23999 }),
		with(func(o *api.Orbit) { o.Low, o.High = 23999, 24000 }),
		with(func(o *api.Orbit) { o.Low, o.High = 22000, 2000 }),
		with(func(o *api.Orbit) { o.Low, o.High = -1, 0 }),
		with(func(o *api.Orbit) { o.Period, o.Phase = 20, 20 }),
		with(func(o *api.Orbit) { o.Period, o.Phase = 2000, 2000 }),
	}
	for _, bad := range []int{-1, math.MinInt, math.MinInt + 1, math.MaxInt - 1, math.MaxInt, 1 << 32, -1 << 32} {
		all = append(all,
			with(func(o *api.Orbit) { o.Period = bad }), with(func(o *api.Orbit) { o.Phase = bad }),
			with(func(o *api.Orbit) { o.Low = bad }), with(func(o *api.Orbit) { o.High = bad }),
			with(func(o *api.Orbit) { o.Node = bad }), with(func(o *api.Orbit) { o.Slack = bad }),
		)
		if bad != -1 {
			all = append(all, with(func(o *api.Orbit) { o.Turn = bad }))
		}
	}
	for _, bad := range []int{-100, 0, 2, 18, 19, 21, 99, 101, 1999, 2001, 2002} {
		all = append(all, with(func(o *api.Orbit) { o.Period = bad }))
	}
	return append(all,
		with(func(o *api.Orbit) { o.Phase = 100 }), with(func(o *api.Orbit) { o.Phase = 101 }),
		with(func(o *api.Orbit) { o.High = 24000 }), with(func(o *api.Orbit) { o.High = 24001 }),
		with(func(o *api.Orbit) { o.Node = 48000 }), with(func(o *api.Orbit) { o.Node = 48001 }),
		with(func(o *api.Orbit) { o.Turn = -2001 }), with(func(o *api.Orbit) { o.Turn = 2001 }),
		with(func(o *api.Orbit) { o.Slack = 11 }), with(func(o *api.Orbit) { o.Slack = 12 }),
	)
}

// badMinutes are numbers that are no minutes.
func badMinutes() []int {
	return []int{-1, -2, -10, -1000000, last + 1, last + 2, last + 10, 1 << 31, 1 << 32, -1 << 31, -1 << 32, math.MinInt, math.MinInt + 1, math.MinInt + 10, math.MaxInt - 10, math.MaxInt - 1, math.MaxInt}
}

// badDelays are numbers that are no delays.
func badDelays() []int {
	return []int{-11, 11, -12, 12, 100, last, 1 << 32, -1 << 32, math.MinInt, math.MinInt + 1, math.MaxInt - 1, math.MaxInt}
}

// badSpells are spells that are turned around, too long, or outside of time.
func badSpells() []api.Spell {
	all := []api.Spell{
		{From: 5, To: 4}, {From: 1, To: 0}, {From: 3000, To: 0}, {From: last, To: 0}, {From: last, To: last - 1},
		{From: 0, To: 3001}, {From: 1, To: 3002}, {From: last - 3001, To: last}, {From: 0, To: last}, {From: 500, To: 4000},
		{From: -1, To: -1}, {From: -1, To: 0}, {From: -1, To: 1}, {From: -2, To: -1}, {From: -3000, To: 0}, {From: -1, To: 2999},
		{From: last + 1, To: last + 1}, {From: last, To: last + 1}, {From: last - 1, To: last + 1}, {From: last + 1, To: last + 2}, {From: last + 1, To: last}, {From: last - 2999, To: last + 1},
	}
	for _, end := range []int{math.MinInt, math.MinInt + 1, math.MinInt + 3000, math.MaxInt - 3000, math.MaxInt - 1, math.MaxInt} {
		for _, other := range []int{math.MinInt, -1, 0, 1, last, last + 1, math.MaxInt} {
			all = append(all, api.Spell{From: end, To: other}, api.Spell{From: other, To: end})
		}
		all = append(all, api.Spell{From: end, To: end})
	}
	return all
}

// good returns a function that returns a result that is there without an error.
func good[R any](t *testing.T) func(R, api.Errno) R {
	return func(result R, err api.Errno) R {
		if err != api.OK {
			t.Helper()
			t.Fatalf("error %d", err)
		}
		return result
	}
}
