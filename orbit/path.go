package orbit

import (
	"iter"

	"nadir/api"
)

// Places are counted in thousandths of a column or of a row.
const (
	thousand   = 1000
	allColumns = api.MaxColumns * thousand
	allRows    = api.MaxRows * thousand
)

// minute is one of time, as if there were no delays: it may lie before the minute 0, and behind the last one.
type minute int

// revolution is how long a satellite needs to go up and down, and at which minute of that it is at the minute 0.
type revolution struct {
	period minute
	phase  minute
}

// climb returns for how many minutes the satellite has gone up at m from its southernmost row or, if it goes down, for how many it will still go down to it.
func (r revolution) climb(m minute) int {
	since := around(m+r.phase, r.period)
	return int(min(since, r.period-since))
}

// path is where a satellite is without delays: the elements of its orbit, in which it goes around the globe, with its revolution, in which it goes up and down.
type path struct {
	revolution
	low  int
	span int
	node int
	turn int
}

// pathOf returns the path of the valid orbit o.
func pathOf(o api.Orbit) path {
	return path{revolution{minute(o.Period), minute(o.Phase)}, o.Low, o.High - o.Low, o.Node, o.Turn}
}

// row returns the row at m, in thousandths.
func (p path) row(m minute) int {
	return p.low + p.span*2*p.climb(m)/int(p.period)
}

// column returns the column at m, in thousandths.
func (p path) column(m minute) int {
	return around(p.node+p.turn*int(m), allColumns)
}

// cell returns the cell at m.
func (p path) cell(m minute) api.Cell {
	return api.Cell{X: p.column(m) / thousand, Y: p.row(m) / thousand}
}

// cells yields the cells at the minutes from one up to another one, in order. With all delays, a satellite is in those around its minute.
func (p path) cells(from, to minute) iter.Seq[api.Cell] {
	return func(yield func(api.Cell) bool) {
		for m := from; m < to; m++ {
			if !yield(p.cell(m)) {
				return
			}
		}
	}
}

// ask returns what find finds on the path of o at the minute t, with the delay late.
func ask[A any](o api.Orbit, t, late int, find func(path, minute) A) (A, api.Errno) {
	if !Valid(o) || !isMinute(t) || !isDelay(late) {
		var none A
		return none, api.ErrOrbit
	}
	return find(pathOf(o), minute(t-late)), api.OK
}

// isMinute reports whether t is a minute.
func isMinute(t int) bool {
	return 0 <= t && t <= api.MaxTime
}

// isDelay reports whether late is a delay of some satellite.
func isDelay(late int) bool {
	return -api.MaxSlack <= late && late <= api.MaxSlack
}

// around returns what is left of n after going around as often as possible: it is from 0 to whole - 1, also if n is negative.
func around[N ~int](n, whole N) N {
	rest := n % whole
	if rest < 0 {
		rest += whole
	}
	return rest
}
