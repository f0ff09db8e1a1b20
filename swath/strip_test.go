package swath_test

import (
	"math/rand"
	"testing"

	"nadir/api"
	"nadir/swath"
)

// stripBy returns what Strip says.
func stripBy(t *testing.T, o api.Orbit, shot api.Spell, look int) strip {
	t.Helper()
	s := good[api.Strip](t)(swath.Strip(o, shot, look))
	return strip{gridOf(t, s.Sure), gridOf(t, s.Can)}
}

// P8.1, P8.2: the strips of exposures.
func TestStrip(t *testing.T) {
	as := map[string]int{}
	for _, o := range someOrbits(4, 50) {
		for _, shot := range shots() {
			for look := -4; look <= 4; look++ {
				got, want := stripBy(t, o, shot, look), stripOf(o, shot, look)
				if got != want {
					t.Fatalf("%+v in %v, with the look %d: %v, %v; want %v, %v", o, shot, look, got.sure.cells(), got.can.cells(), want.sure.cells(), want.can.cells())
				}
				switch {
				case o.Slack == 0:
					as["no doubt"]++
				case want.sure == grid{}:
					as["nothing is sure"]++
				case want.sure == want.can:
					as["everything is sure"]++
				default:
					as["some is sure"]++
				}
			}
		}
	}
	if len(as) != 4 {
		t.Errorf("not every case: %v", as)
	}
}

// P8.1: strips that are known.
func TestStripExamples(t *testing.T) {
	still := api.Orbit{Period: 60, Phase: 7, Low: 2000, High: 2999, Node: 7000, Turn: 0, Slack: 10}
	edge := api.Orbit{Period: 2000, Low: 0, High: 1000, Node: 47000, Turn: 500, Slack: 1}
	for _, x := range []struct {
		o         api.Orbit
		shot      api.Spell
		look      int
		sure, can grid
	}{
		{example(), spell(10, 20), 2, rows(12, 2, 3), rows(12, 1, 2, 3, 4)},
		{example(), spell(10, 20), -4, rows(6, 2, 3), rows(6, 1, 2, 3, 4)},
		{with(func(o *api.Orbit) { o.Slack = 0 }), spell(10, 20), 2, rows(12, 2, 3), rows(12, 2, 3)},
		// In one minute it may be in one cell or in another one, so that nothing is sure.
		{example(), spell(10, 11), 0, grid{}, rows(10, 1, 2)},
		{example(), spell(12, 13), 0, rows(10, 2), rows(10, 2)},
		// With every delay another minute shows the cell.
		{example(), spell(13, 17), 0, rows(10, 2, 3), rows(10, 2, 3)},
		{with(func(o *api.Orbit) { o.Slack = 10 }), spell(30, 31), 0, grid{}, rows(10, 4, 5, 6, 7, 8)},
		{with(func(o *api.Orbit) { o.Slack = 10 }), spell(30, 60), 0, rows(10, 8, 9), rows(10, 4, 5, 6, 7, 8, 9, 10, 11, 12, 13)},
		{still, spell(500, 501), 4, rows(11, 2), rows(11, 2)},
		// At the ends of time it could be before the first minute and behind the last one.
		{example(), spell(0, 5), 0, rows(10, 0), rows(10, 0, 1)},
		{with(func(o *api.Orbit) { o.Slack = 10 }), spell(0, 1), 0, grid{}, rows(10, 0, 1, 2)},
		{with(func(o *api.Orbit) { o.Slack = 10 }), spell(last, last+1), 0, grid{}, rows(10, 0, 1, 2)},
		// Both sides of the column 0.
		{edge, spell(0, 6), 0, of(cell(47, 0), cell(0, 0), cell(1, 0)), of(cell(46, 0), cell(47, 0), cell(0, 0), cell(1, 0), cell(2, 0))},
		{edge, spell(0, 5), -1, of(cell(46, 0), cell(47, 0)), of(cell(45, 0), cell(46, 0), cell(47, 0), cell(0, 0))},
	} {
		if got := stripBy(t, x.o, x.shot, x.look); got != (strip{x.sure, x.can}) {
			t.Errorf("%+v in %v, with the look %d: %v, %v; want %v, %v", x.o, x.shot, x.look, got.sure.cells(), got.can.cells(), x.sure.cells(), x.can.cells())
		}
	}
}

// P8.2: with every delay, all of Sure is shown and nothing outside of Can; between them there are a delay that shows a cell, and one that does not.
func TestCertainAndPossible(t *testing.T) {
	for _, o := range someOrbits(5, 100) {
		for i, shot := range shots() {
			look := i%9 - 4
			s := stripBy(t, o, shot, look)
			var withDelays []grid
			for late := -o.Slack; late <= o.Slack; late++ {
				g := shownBy(t, o, shot, look, late)
				if !g.has(s.sure) || !s.can.has(g) {
					t.Fatalf("%+v in %v, with the look %d and the delay %d: %v; Sure %v, Can %v", o, shot, look, late, g.cells(), s.sure.cells(), s.can.cells())
				}
				withDelays = append(withDelays, g)
			}
			for _, c := range s.can.cells() {
				is, isNot := false, false
				for _, g := range withDelays {
					is, isNot = is || g[c.Y][c.X], isNot || !g[c.Y][c.X]
				}
				if !is || isNot == s.sure[c.Y][c.X] {
					t.Fatalf("%+v in %v, with the look %d: %v is shown with some delay: %t, and not with some: %t", o, shot, look, c, is, isNot)
				}
			}
		}
	}
}

// P8.1: an exposure shows what its strip has for sure, a part of it, and nothing, but not a cell more.
func TestShows(t *testing.T) {
	r := rand.New(rand.NewSource(6))
	for _, o := range someOrbits(6, 30) {
		for _, shot := range shots() {
			look := r.Intn(9) - 4
			s := stripOf(o, shot, look)
			check := func(what string, g grid, want bool) {
				t.Helper()
				if got := swath.Shows(o, shot, look, g.area()); got != want {
					t.Fatalf("%+v in %v, with the look %d: shows %s: %t", o, shot, look, what, got)
				}
			}
			check("nothing", grid{}, true)
			check("all of Sure", s.sure, true)
			check("all of Can", s.can, s.sure == s.can)
			all := s.can.cells()
			for _, c := range []api.Cell{all[0], all[len(all)-1], all[r.Intn(len(all))], cell(r.Intn(48), r.Intn(24))} {
				check("one cell", of(c), s.sure[c.Y][c.X])
				check("Sure and one cell", s.sure.with(of(c)), s.sure[c.Y][c.X])
			}
		}
	}
}

// P8.1: no exposure shows an area that is not valid.
func TestShowsInvalidArea(t *testing.T) {
	for _, o := range edgeOrbits() {
		for _, a := range badAreas() {
			for _, shot := range shots() {
				if swath.Shows(o, shot, 0, a) {
					t.Fatalf("%+v in %v shows %x", o, shot, a.Rows)
				}
			}
		}
	}
}
