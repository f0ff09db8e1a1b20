package orbit_test

import (
	"testing"

	"nadir/api"
	"nadir/orbit"
)

// P7.1: delays are allowed that the satellite itself cannot have.
func TestDelayBeyondSlack(t *testing.T) {
	for slack := 0; slack <= 10; slack++ {
		o := with(func(o *api.Orbit) { o.Slack = slack })
		for late := -10; late <= 10; late++ {
			if got, want := placesOf(t, o, 500, late), placesOf(t, example(), 500, late); got != want {
				t.Errorf("Slack %d, with the delay %d: %v; want %v", slack, late, got, want)
			}
		}
	}
}

// P7.2: being late by one minute more is being where one was a minute before.
func TestDelays(t *testing.T) {
	for _, o := range someOrbits(3, 200) {
		for _, at := range edgeMinutes(o) {
			if at == 0 {
				continue
			}
			for late := -10; late < 10; late++ {
				if later, before := placesOf(t, o, at, late+1), placesOf(t, o, at-1, late); later != before {
					t.Fatalf("%+v at %d, with the delay %d: %v; a minute before, with %d: %v", o, at, late+1, later, late, before)
				}
			}
		}
	}
}

// remainder returns the remainder of n, divided by 48000, from 0 on.
func remainder(n int) int {
	for n < 0 {
		n += 48000 * 1000
	}
	return n % 48000
}

// P7.3: after a revolution the row is the same, and the column has moved by Turn * Period.
func TestRevolutions(t *testing.T) {
	for _, o := range someOrbits(4, 200) {
		for _, at := range edgeMinutes(o) {
			if at+o.Period > last {
				at -= o.Period
			}
			for _, late := range []int{-10, -1, 0, 1, 10} {
				now, again := placesOf(t, o, at, late), placesOf(t, o, at+o.Period, late)
				if again.row != now.row || again.column != remainder(now.column+o.Turn*o.Period) {
					t.Fatalf("%+v at %d, with the delay %d: %v; after a revolution %v", o, at, late, now, again)
				}
			}
		}
	}
}

// P7.3: in the second half of a revolution the rows of the first half come back in the other order.
func TestHalfRevolutions(t *testing.T) {
	for _, o := range someOrbits(5, 200) {
		for _, late := range []int{-10, -1, 0, 1, 10} {
			// The satellite is at its southernmost row at these minutes.
			for _, start := range []int{o.Period - o.Phase + late + 2*o.Period, last - 2*o.Period - (last-late+o.Phase)%o.Period} {
				var rows []int
				for u := range o.Period + 1 {
					rows = append(rows, good[int](t)(orbit.Row(o, start+u, late)))
				}
				for u, row := range rows {
					if row != rows[o.Period-u] {
						t.Fatalf("%+v, with the delay %d: %d minutes after %d: %d; %d minutes after it: %d", o, late, u, start, row, o.Period-u, rows[o.Period-u])
					}
				}
				if rows[0] != o.Low || rows[o.Period/2] != o.High {
					t.Fatalf("%+v, with the delay %d: at %d: %d, half a revolution later: %d", o, late, start, rows[0], rows[o.Period/2])
				}
			}
		}
	}
}

// checkSmooth checks the rows and columns of a minute and of the next one.
func checkSmooth(t *testing.T, o api.Orbit, at, late int) {
	// How much a row changes, rounded up.
	greatest := 0
	for greatest*o.Period < (o.High-o.Low)*2 {
		greatest++
	}
	number := good[int](t)
	row, column := number(orbit.Row(o, at, late)), number(orbit.Column(o, at, late))
	next, nextColumn := number(orbit.Row(o, at+1, late)), number(orbit.Column(o, at+1, late))
	if row < o.Low || row > o.High || row-next > greatest || next-row > greatest || nextColumn != remainder(column+o.Turn) {
		t.Helper()
		t.Fatalf("%+v at %d, with the delay %d: %d, %d; a minute later: %d, %d", o, at, late, row, column, next, nextColumn)
	}
}

// P7.7: rows are from Low to High, and change by so much; columns change by Turn, around.
func TestSmooth(t *testing.T) {
	for _, o := range someOrbits(6, 200) {
		for _, at := range edgeMinutes(o) {
			for _, late := range []int{-10, -1, 0, 1, 10} {
				checkSmooth(t, o, min(at, last-1), late)
			}
		}
		for at := last / 2; at < last/2+o.Period; at++ {
			checkSmooth(t, o, at, 0)
		}
	}
}

// P7.7: the bounds are reached in each revolution, and rows change by as much as they may.
func TestSmoothIsReached(t *testing.T) {
	o := with(func(o *api.Orbit) { o.Period = 30 })
	least, greatest, change := 24000, -1, 0
	for at := range o.Period {
		row, next := good[int](t)(orbit.Row(o, at, 0)), good[int](t)(orbit.Row(o, at+1, 0))
		least, greatest, change = min(least, row), max(greatest, row), max(change, row-next, next-row)
	}
	if least != o.Low || greatest != o.High || change != 1334 {
		t.Errorf("from %d to %d, by up to %d", least, greatest, change)
	}
}
