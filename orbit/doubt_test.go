package orbit_test

import (
	"slices"
	"testing"

	"nadir/api"
	"nadir/orbit"
)

// doubt is where a satellite could be, where it must be, and whether it must be somewhere.
type doubt struct {
	could []api.Cell
	must  api.Cell
	is    bool
}

// doubtOf returns where the satellite of o could be and must be.
func doubtOf(t *testing.T, o api.Orbit, at int) doubt {
	must, is := orbit.Must(o, at)
	return doubt{good[[]api.Cell](t)(orbit.Could(o, at)), must, is}
}

// checkDoubt checks where the satellite of o could be and must be.
func checkDoubt(t *testing.T, o api.Orbit, at int, could []api.Cell) {
	got, want := doubtOf(t, o, at), doubt{could: could}
	if len(could) == 1 {
		want.must, want.is = could[0], true
	}
	if !slices.Equal(got.could, want.could) || got.must != want.must || got.is != want.is {
		t.Helper()
		t.Fatalf("%+v at %d: %v; want %v", o, at, got, want)
	}
}

// P7.1: where satellites could be and must be, at the edges.
func TestDoubt(t *testing.T) {
	for _, o := range someOrbits(9, 100) {
		w := newWalk(o)
		for _, at := range edgeMinutes(o) {
			for slack := 0; slack <= 10; slack++ {
				o.Slack = slack
				checkDoubt(t, o, at, w.could(at, slack))
			}
		}
	}
}

// P7.1: where some satellites could be and must be, in all minutes of some revolutions.
func TestDoubtOfRevolutions(t *testing.T) {
	for _, o := range someOrbits(10, 30) {
		w := newWalk(o)
		for at := 70000; at < 70000+max(200, 2*o.Period); at++ {
			checkDoubt(t, o, at, w.could(at, o.Slack))
		}
	}
}

// P7.1: cells that are known.
func TestDoubtExamples(t *testing.T) {
	calm := with(func(o *api.Orbit) { o.Slack = 0 })
	slow := with(func(o *api.Orbit) { o.Turn, o.Low, o.High = 0, 2000, 2999 })
	back := api.Orbit{Period: 20, Low: 0, High: 23999, Node: 7000, Turn: 0, Slack: 2}
	wide := api.Orbit{Period: 60, Low: 2000, High: 2001, Node: 46500, Turn: 1000, Slack: 2}
	for _, x := range []struct {
		o     api.Orbit
		at    int
		could []api.Cell
	}{
		{example(), 10, []api.Cell{cell(9, 5), cell(10, 6)}},
		{calm, 10, []api.Cell{cell(10, 6)}},
		// At the minute 0 it could be before it, and at the last one behind it.
		{example(), 0, []api.Cell{cell(4, 2), cell(5, 2)}},
		{example(), last, []api.Cell{cell(36, 2), cell(37, 2)}},
		{with(func(o *api.Orbit) { o.Node = 0 }), 0, []api.Cell{cell(0, 2), cell(47, 2)}},
		// It stays in a cell.
		{slow, 50, []api.Cell{cell(5, 2)}},
		{with(func(o *api.Orbit) { o.Turn, o.Low, o.High, o.Slack = 0, 2000, 2999, 10 }), 50, []api.Cell{cell(5, 2)}},
		{with(func(o *api.Orbit) { o.Turn, o.Low, o.High = 0, 2000, 3000 }), 50, []api.Cell{cell(5, 2), cell(5, 3)}},
		// It comes back to a cell.
		{back, 0, []api.Cell{cell(7, 0), cell(7, 2), cell(7, 4)}},
		{back, 10, []api.Cell{cell(7, 19), cell(7, 21), cell(7, 23)}},
		{back, 11, []api.Cell{cell(7, 16), cell(7, 19), cell(7, 21), cell(7, 23)}},
		// It is in as many cells as it has delays, and goes around, which is not the order of cells.
		{wide, 1, []api.Cell{cell(0, 2), cell(1, 2), cell(45, 2), cell(46, 2), cell(47, 2)}},
		// By rows first: southward and eastward, or westward.
		{example(), 75, []api.Cell{cell(43, 11), cell(42, 12)}},
		{with(func(o *api.Orbit) { o.Turn = -500 }), 10, []api.Cell{cell(0, 5), cell(0, 6), cell(47, 6)}},
	} {
		checkDoubt(t, x.o, x.at, x.could)
	}
}

// P7.1: without a valid orbit and a minute, a satellite can be nowhere, and must be nowhere.
func TestDoubtInvalid(t *testing.T) {
	refused := func(o api.Orbit, at int) {
		could, err := orbit.Could(o, at)
		must, is := orbit.Must(o, at)
		if err != api.ErrOrbit || len(could) != 0 || is || must != (api.Cell{}) {
			t.Errorf("%+v at %d: error %d, %v; %t, %v", o, at, err, could, is, must)
		}
	}
	for _, o := range badOrbits() {
		for _, at := range append(badMinutes(), 0, 10, last) {
			refused(o, at)
		}
	}
	for _, o := range edgeOrbits() {
		for _, at := range badMinutes() {
			refused(o, at)
		}
	}
}

// cellsOfDelays returns the cells in which At has the satellite of o with each of its delays.
func cellsOfDelays(t *testing.T, o api.Orbit, at int) []api.Cell {
	var all []api.Cell
	for late := -o.Slack; late <= o.Slack; late++ {
		all = append(all, good[api.Cell](t)(orbit.At(o, at, late)))
	}
	return all
}

// P7.4: Could has the cells of all delays, and no other one, each once and in order.
func TestCouldIsAllDelays(t *testing.T) {
	as := map[string]int{}
	for _, o := range someOrbits(11, 200) {
		for _, at := range edgeMinutes(o) {
			could, delays := good[[]api.Cell](t)(orbit.Could(o, at)), cellsOfDelays(t, o, at)
			for i, c := range could {
				if !slices.Contains(delays, c) {
					t.Fatalf("%+v at %d: no delay has %v", o, at, c)
				}
				if i > 0 && (could[i-1].Y > c.Y || could[i-1].Y == c.Y && could[i-1].X >= c.X) {
					t.Fatalf("%+v at %d: %v is not in order", o, at, could)
				}
			}
			for _, c := range delays {
				if !slices.Contains(could, c) {
					t.Fatalf("%+v at %d: %v is not in %v", o, at, c, could)
				}
			}
			switch {
			case o.Slack == 0:
				as["certain"]++
			case len(could) == 1:
				as["one"]++
			case len(could) == 2*o.Slack+1:
				as["all"]++
			case delays[0] == delays[2*o.Slack]:
				as["back"]++
			default:
				as["some"]++
			}
		}
	}
	if len(as) != 5 {
		t.Errorf("not every case: %v", as)
	}
}

// P7.4: a satellite must be in a cell exactly if it could be in no other one.
func TestMustIsNoOther(t *testing.T) {
	for _, o := range someOrbits(12, 200) {
		for _, at := range edgeMinutes(o) {
			d, delays := doubtOf(t, o, at), cellsOfDelays(t, o, at)
			same := len(slices.Compact(delays)) == 1
			if d.is != same || d.is != (len(d.could) == 1) || d.is && (d.must != delays[0] || d.must != d.could[0]) || !d.is && d.must != (api.Cell{}) {
				t.Fatalf("%+v at %d: %v", o, at, d)
			}
		}
	}
}

// P7.4: without Slack, a satellite must be somewhere at every minute.
func TestMustWithoutSlack(t *testing.T) {
	o := with(func(o *api.Orbit) { o.Slack = 0 })
	for at := 0; at <= last; at++ {
		if must, is := orbit.Must(o, at); !is || must != good[api.Cell](t)(orbit.At(o, at, 0)) {
			t.Fatalf("at %d: %v, %t", at, must, is)
		}
	}
	for _, o := range someOrbits(13, 200) {
		o.Slack = 0
		for _, at := range edgeMinutes(o) {
			if must, is := orbit.Must(o, at); !is || must != good[api.Cell](t)(orbit.At(o, at, 0)) {
				t.Fatalf("%+v at %d: %v, %t", o, at, must, is)
			}
		}
	}
}

// P7.5: with a greater Slack, a satellite could be wherever it could be, and must be nowhere else.
func TestMoreDoubt(t *testing.T) {
	more, lost := 0, 0
	for _, o := range someOrbits(14, 100) {
		for _, at := range edgeMinutes(o) {
			o.Slack = 0
			less := doubtOf(t, o, at)
			for o.Slack = 1; o.Slack <= 10; o.Slack++ {
				d := doubtOf(t, o, at)
				for _, c := range less.could {
					if !slices.Contains(d.could, c) {
						t.Fatalf("%+v at %d: %v, and with less Slack %v", o, at, d, less)
					}
				}
				if d.is && (!less.is || less.must != d.must) {
					t.Fatalf("%+v at %d: %v, and with less Slack %v", o, at, d, less)
				}
				if len(d.could) > len(less.could) {
					more++
				}
				if less.is && !d.is {
					lost++
				}
				less = d
			}
		}
	}
	if more == 0 || lost == 0 {
		t.Errorf("%d times more cells, %d times no cell any more", more, lost)
	}
}

// P7.1: a result is new memory, with what it has beyond its length.
func TestCouldIsNew(t *testing.T) {
	o, could := with(func(o *api.Orbit) { o.Slack = 10 }), good[[]api.Cell](t)
	want := slices.Clone(could(orbit.Could(o, 500)))
	first, second := could(orbit.Could(o, 500)), could(orbit.Could(o, 500))
	all := first[:cap(first)]
	for i := range all {
		all[i] = cell(-7, -7)
	}
	if third := could(orbit.Could(o, 500)); !slices.Equal(second, want) || !slices.Equal(third, want) {
		t.Errorf("changed by a change of another result: %v, %v", second, third)
	}
}
