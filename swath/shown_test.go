package swath_test

import (
	"testing"

	"nadir/api"
	"nadir/orbit"
	"nadir/swath"
)

// shownBy returns what Shown says.
func shownBy(t *testing.T, o api.Orbit, shot api.Spell, look, late int) grid {
	t.Helper()
	return gridOf(t, good[api.Area](t)(swath.Shown(o, shot, look, late)))
}

// P8.1: what exposures show, with all looks and all delays.
func TestShown(t *testing.T) {
	for _, o := range someOrbits(2, 30) {
		for _, shot := range shots() {
			for look := -4; look <= 4; look++ {
				for late := -o.Slack; late <= o.Slack; late++ {
					if got, want := shownBy(t, o, shot, look, late), shown(o, shot, look, late); got != want {
						t.Fatalf("%+v in %v, with the look %d and the delay %d: %v; want %v", o, shot, look, late, got.cells(), want.cells())
					}
				}
			}
		}
	}
}

// P8.1: an exposure of one minute shows the cell in which the satellite is then, by orbit.At.
func TestShownAt(t *testing.T) {
	for _, o := range someOrbits(3, 60) {
		for _, at := range []int{0, 1, 9, 10, 99, 100, 47123, last - 1, last} {
			for late := -o.Slack; late <= o.Slack; late++ {
				is := good[api.Cell](t)(orbit.At(o, at, late))
				if got := shownBy(t, o, spell(at, at+1), 0, late); got != of(is) {
					t.Fatalf("%+v at %d, with the delay %d: %v; it is in %v", o, at, late, got.cells(), is)
				}
			}
		}
	}
}

// P8.1: what is known to be shown.
func TestShownExamples(t *testing.T) {
	edge := api.Orbit{Period: 2000, Low: 0, High: 1000, Node: 47000, Turn: 500, Slack: 2}
	for _, x := range []struct {
		o          api.Orbit
		shot       api.Spell
		look, late int
		want       grid
	}{
		{example(), spell(10, 20), 0, 0, rows(10, 2, 3)},
		{example(), spell(10, 20), 0, 1, rows(10, 1, 2, 3)},
		{example(), spell(10, 20), 0, -1, rows(10, 2, 3, 4)},
		{example(), spell(10, 20), -4, 1, rows(6, 1, 2, 3)},
		{example(), spell(10, 20), 4, -1, rows(14, 2, 3, 4)},
		// It comes back over what it has shown.
		{example(), spell(95, 107), 0, 0, rows(10, 18, 19, 20)},
		{example(), spell(100, 101), 0, 0, rows(10, 20)},
		// Before the minute 0, and at the last one of all.
		{example(), spell(0, 1), 0, 1, rows(10, 0)},
		{with(func(o *api.Orbit) { o.Slack = 10 }), spell(0, 1), 0, 10, rows(10, 2)},
		{with(func(o *api.Orbit) { o.Slack = 10 }), spell(last, last+1), 0, -10, rows(10, 2)},
		{with(func(o *api.Orbit) { o.Slack = 10 }), spell(last-4, last+1), 0, 0, rows(10, 0)},
		// Both sides of the column 0.
		{edge, spell(0, 6), 0, 0, of(cell(47, 0), cell(0, 0), cell(1, 0))},
		{edge, spell(0, 6), 1, 0, of(cell(0, 0), cell(1, 0), cell(2, 0))},
		{edge, spell(0, 6), -1, 0, of(cell(46, 0), cell(47, 0), cell(0, 0))},
		{edge, spell(0, 6), -2, 2, of(cell(44, 0), cell(45, 0), cell(46, 0))},
		{edge, spell(4, 5), -4, 0, of(cell(45, 0))},
		{edge, spell(0, 1), 4, 0, of(cell(3, 0))},
	} {
		if got := shownBy(t, x.o, x.shot, x.look, x.late); got != x.want {
			t.Errorf("%+v in %v, with the look %d and the delay %d: %v; want %v", x.o, x.shot, x.look, x.late, got.cells(), x.want.cells())
		}
	}
}

// P8.1: with a delay that the satellite cannot have, nothing is shown.
func TestShownInvalidDelay(t *testing.T) {
	for slack := 0; slack <= 10; slack++ {
		o := with(func(o *api.Orbit) { o.Slack = slack })
		late := append(badNumbers(), -11, 11)
		for n := slack + 1; n <= 12; n++ {
			late = append(late, -n, n)
		}
		for _, late := range late {
			for _, shot := range shots() {
				if a, err := swath.Shown(o, shot, 1, late); err != api.ErrSwath || len(a.Rows) != 0 {
					t.Errorf("Slack %d, in %v, with the delay %d: error %d, %x", slack, shot, late, err, a.Rows)
				}
			}
		}
		shownBy(t, o, spell(5, 6), 1, slack)
		shownBy(t, o, spell(5, 6), 1, -slack)
	}
}
