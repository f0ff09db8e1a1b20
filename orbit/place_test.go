package orbit_test

import (
	"testing"

	"nadir/api"
	"nadir/orbit"
)

// places are the row, the column and the cell of a satellite.
type places struct {
	row, column int
	at          api.Cell
}

// placesOf returns where the satellite of o is.
func placesOf(t *testing.T, o api.Orbit, at, late int) places {
	row, errRow := orbit.Row(o, at, late)
	column, errColumn := orbit.Column(o, at, late)
	c, errCell := orbit.At(o, at, late)
	if errRow != api.OK || errColumn != api.OK || errCell != api.OK {
		t.Helper()
		t.Fatalf("%+v at %d, with the delay %d: the errors %d, %d, %d", o, at, late, errRow, errColumn, errCell)
	}
	return places{row, column, c}
}

// checkPlaces checks where the satellite of o is.
func checkPlaces(t *testing.T, o api.Orbit, w *walk, at, late int) {
	want := places{w.row(at, late), w.column(at, late), w.cell(at, late)}
	if got := placesOf(t, o, at, late); got != want {
		t.Helper()
		t.Fatalf("%+v at %d, with the delay %d: %v; want %v", o, at, late, got, want)
	}
}

// P7.1: rows, columns and cells at all minutes, with changing delays.
func TestPlaces(t *testing.T) {
	for _, o := range edgeOrbits() {
		w := newWalk(o)
		for at := 0; at <= last; at++ {
			checkPlaces(t, o, w, at, at%21-10)
		}
	}
}

// P7.1: rows, columns and cells with all delays, at the edges.
func TestPlacesAtEdges(t *testing.T) {
	for _, o := range someOrbits(2, 100) {
		w := newWalk(o)
		for _, at := range edgeMinutes(o) {
			for late := -10; late <= 10; late++ {
				checkPlaces(t, o, w, at, late)
			}
		}
	}
}

// P7.1: rows, columns and cells that are known.
func TestPlacesExamples(t *testing.T) {
	slow := api.Orbit{Period: 20, Low: 0, High: 1}
	all := api.Orbit{Period: 2000, Low: 0, High: 23999, Node: 47999, Turn: 1}
	west := with(func(o *api.Orbit) { o.Turn, o.Phase = -500, 30 })
	for _, x := range []struct {
		o        api.Orbit
		at, late int
		want     places
	}{
		// The examples of the chapter.
		{example(), 0, 0, places{2000, 5000, cell(5, 2)}},
		{example(), 25, 0, places{12000, 17500, cell(17, 12)}},
		{example(), 50, 0, places{22000, 30000, cell(30, 22)}},
		{example(), 75, 0, places{12000, 42500, cell(42, 12)}},
		{example(), 100, 0, places{2000, 7000, cell(7, 2)}},
		{example(), 10, 0, places{6000, 10000, cell(10, 6)}},
		{example(), 10, 1, places{5600, 9500, cell(9, 5)}},
		{example(), 10, -1, places{6400, 10500, cell(10, 6)}},
		// Around the column 0, eastward and westward.
		{example(), 85, 0, places{8000, 47500, cell(47, 8)}},
		{example(), 86, 0, places{7600, 0, cell(0, 7)}},
		{west, 10, 0, places{18000, 0, cell(0, 18)}},
		{west, 11, 0, places{18400, 47500, cell(47, 18)}},
		{all, 0, 0, places{0, 47999, cell(47, 0)}},
		{all, 1, 0, places{23, 0, cell(0, 0)}},
		// Before the minute 0, and behind the last one.
		{example(), 0, 10, places{6000, 0, cell(0, 6)}},
		{with(func(o *api.Orbit) { o.Node = 4999 }), 0, 10, places{6000, 47999, cell(47, 6)}},
		{west, 0, 10, places{10000, 10000, cell(10, 10)}},
		{example(), last, -10, places{6000, 42000, cell(42, 6)}},
		{example(), last, 0, places{2000, 37000, cell(37, 2)}},
		{example(), last, 10, places{6000, 32000, cell(32, 6)}},
		// What is rounded, up to the turning point and behind it.
		{slow, 9, 0, places{0, 0, cell(0, 0)}},
		{slow, 10, 0, places{1, 0, cell(0, 0)}},
		{slow, 11, 0, places{0, 0, cell(0, 0)}},
		{all, 999, 0, places{23975, 998, cell(0, 23)}},
		{all, 1000, 0, places{23999, 999, cell(0, 23)}},
		{all, 1001, 0, places{23975, 1000, cell(1, 23)}},
	} {
		if got := placesOf(t, x.o, x.at, x.late); got != x.want {
			t.Errorf("%+v at %d, with the delay %d: %v; want %v", x.o, x.at, x.late, got, x.want)
		}
	}
}

// refusedPlaces checks that a satellite is nowhere.
func refusedPlaces(t *testing.T, o api.Orbit, at, late int) {
	t.Helper()
	row, err := orbit.Row(o, at, late)
	column, errColumn := orbit.Column(o, at, late)
	c, errCell := orbit.At(o, at, late)
	if err != api.ErrOrbit || errColumn != api.ErrOrbit || errCell != api.ErrOrbit || row != 0 || column != 0 || c != (api.Cell{}) {
		t.Errorf("%+v at %d, with the delay %d: %d, %d, %v, with the errors %d, %d, %d", o, at, late, row, column, c, err, errColumn, errCell)
	}
}

// P7.1: without a valid orbit, a minute and a delay, a satellite is nowhere.
func TestPlacesInvalid(t *testing.T) {
	for _, o := range badOrbits() {
		for _, at := range append(badMinutes(), 0, 10, last) {
			refusedPlaces(t, o, at, 0)
		}
		refusedPlaces(t, o, 10, 11)
	}
	for _, o := range edgeOrbits() {
		for _, at := range badMinutes() {
			// A delay does not bring it back into time.
			for _, late := range append(badDelays(), -10, -1, 0, 1, 10) {
				refusedPlaces(t, o, at, late)
			}
		}
		for _, late := range badDelays() {
			for _, at := range []int{0, 10, last / 2, last} {
				refusedPlaces(t, o, at, late)
			}
		}
	}
}
