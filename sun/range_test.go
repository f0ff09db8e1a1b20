package sun_test

import (
	"math"
	"math/rand"
	"slices"
	"testing"

	"nadir/api"
	"nadir/globe"
	"nadir/sun"
)

// spells are valid spells: of one and of 60 minutes, at the beginning and at the end of time, of days, and of the halves of a year.
func spells() []api.Spell {
	all := []api.Spell{{From: 0, To: 1}, {From: 0, To: 60}, {From: 1, To: 61}, {From: last, To: last + 1}, {From: last - 59, To: last + 1}, {From: last - 60, To: last}}
	for _, d := range []int{1, 90, 91, 180, 270, 271, 346, 359, 360, 450} {
		midnight := d * dayLong
		all = append(all, api.Spell{From: midnight, To: midnight + 1}, api.Spell{From: midnight - 30, To: midnight + 30}, api.Spell{From: midnight - 1, To: midnight + 59}, api.Spell{From: midnight + 690, To: midnight + 720})
	}
	return all
}

// someAreas are areas with cells: single ones, those beside noon and around, columns, rows, all of the globe, and random ones.
func someAreas(t *testing.T) []api.Area {
	all := []api.Area{
		of(t, cell(0, 0)), of(t, cell(47, 23)), of(t, cell(24, 12)), of(t, cell(0, 12), cell(12, 12)), of(t, cell(0, 0), cell(47, 23)), of(t, cell(5, 20), cell(30, 2), cell(47, 11)),
		box(t, cell(46, 10), 4, 3), box(t, cell(22, 11), 5, 2), box(t, cell(12, 0), 1, 24), box(t, cell(0, 23), 48, 1), box(t, cell(0, 0), 48, 24),
	}
	r := rand.New(rand.NewSource(1))
	for range 8 {
		var cells []api.Cell
		for range 1 + r.Intn(30) {
			cells = append(cells, cell(r.Intn(48), r.Intn(24)))
		}
		all = append(all, of(t, cells...))
	}
	return all
}

// bounds is what Range returned.
type bounds struct {
	least, greatest int
	err             api.Errno
}

func boundsOf(least, greatest int, err api.Errno) bounds {
	return bounds{least, greatest, err}
}

// bounds returns the least and the greatest height of cells at minutes.
func (m *model) bounds(cells []api.Cell, s api.Spell) bounds {
	b := bounds{least: 90, greatest: -90}
	for k := s.From; k < s.To; k++ {
		for _, c := range cells {
			b.least, b.greatest = min(b.least, m.height(c, k)), max(b.greatest, m.height(c, k))
		}
	}
	return b
}

// P6.1, P6.8: the bounds of areas in spells.
func TestRange(t *testing.T) {
	m := newModel()
	for i, a := range someAreas(t) {
		for _, s := range spells() {
			want := m.bounds(globe.Cells(a), s)
			if got := boundsOf(sun.Range(a, s)); got != want {
				t.Errorf("area %d in %v: %v; want %v", i, s, got, want)
			}
		}
	}
}

// P6.1: the bounds of each single cell.
func TestRangeOfCells(t *testing.T) {
	m := newModel()
	for _, c := range everyCell() {
		for _, s := range []api.Spell{{From: 0, To: 60}, {From: 720, To: 721}, {From: 346*1440 + 680, To: 346*1440 + 740}, {From: last - 20, To: last + 1}} {
			want := m.bounds([]api.Cell{c}, s)
			if got := boundsOf(sun.Range(of(t, c), s)); got != want {
				t.Errorf("%v in %v: %v; want %v", c, s, got, want)
			}
		}
	}
}

// P6.1: bounds that are known.
func TestRangeExamples(t *testing.T) {
	for i, x := range []struct {
		a    api.Area
		s    api.Spell
		want bounds
	}{
		{of(t, cell(0, 12)), api.Spell{From: 0, To: 1}, bounds{83, 83, api.OK}},
		{of(t, cell(0, 12), cell(12, 12)), api.Spell{From: 0, To: 1}, bounds{-7, 83, api.OK}},
		{of(t, cell(24, 12)), api.Spell{From: 0, To: 1}, bounds{-90, -90, api.OK}},
		// The sun passes the middle of the cell; it is highest between the ends.
		{of(t, cell(24, 12)), api.Spell{From: 15*1440 + 675, To: 15*1440 + 735}, bounds{83, 90, api.OK}},
		{of(t, cell(24, 12)), api.Spell{From: 15*1440 + 705, To: 15*1440 + 706}, bounds{90, 90, api.OK}},
		// The only lit minute, with it and without it.
		{of(t, cell(24, 23)), api.Spell{From: 346*1440 + 705, To: 346*1440 + 706}, bounds{1, 1, api.OK}},
		{of(t, cell(24, 23)), api.Spell{From: 346*1440 + 704, To: 346*1440 + 705}, bounds{0, 0, api.OK}},
		{of(t, cell(24, 23)), api.Spell{From: 346*1440 + 704, To: 346*1440 + 706}, bounds{0, 1, api.OK}},
		{box(t, cell(0, 0), 48, 24), api.Spell{From: last, To: last + 1}, bounds{-90, 87, api.OK}},
	} {
		if got := boundsOf(sun.Range(x.a, x.s)); got != x.want {
			t.Errorf("example %d, in %v: %v; want %v", i, x.s, got, x.want)
		}
	}
}

// P6.8: bounds are reached by some cell and minute, and none is outside of them.
func TestRangeIsReached(t *testing.T) {
	for i, a := range someAreas(t) {
		for _, s := range spells() {
			b := boundsOf(sun.Range(a, s))
			least, greatest := false, false
			for k := s.From; k < s.To; k++ {
				for _, c := range globe.Cells(a) {
					h := good(t)(sun.Height(c, k))
					if h < b.least || h > b.greatest {
						t.Fatalf("area %d in %v: %v; %v at %d has %d", i, s, b, c, k, h)
					}
					least, greatest = least || h == b.least, greatest || h == b.greatest
				}
			}
			if b.err != api.OK || !least || !greatest {
				t.Errorf("area %d in %v: %v is not reached", i, s, b)
			}
		}
	}
}

// P6.8: a greater area and a longer spell have no narrower range.
func TestRangeGrows(t *testing.T) {
	around := func(outer, inner bounds) bool {
		return outer.err == api.OK && inner.err == api.OK && outer.least <= inner.least && outer.greatest >= inner.greatest
	}
	for i, a := range someAreas(t) {
		greater, err := globe.Grown(a, 1)
		if err != api.OK {
			t.Fatalf("area %d does not grow", i)
		}
		for _, s := range spells() {
			b := boundsOf(sun.Range(a, s))
			if g := boundsOf(sun.Range(greater, s)); !around(g, b) {
				t.Errorf("area %d in %v: %v, grown %v", i, s, b, g)
			}
			for _, inner := range []api.Spell{{From: s.From, To: (s.From + s.To + 1) / 2}, {From: (s.From + s.To) / 2, To: s.To}} {
				if short := boundsOf(sun.Range(a, inner)); !around(b, short) {
					t.Errorf("area %d in %v: %v, and in %v: %v", i, s, b, inner, short)
				}
			}
		}
	}
}

// badSpells are spells that are empty, turned around, too long, or outside of time.
func badSpells() []api.Spell {
	all := []api.Spell{
		{From: 0, To: 0}, {From: 5, To: 5}, {From: last, To: last}, {From: last + 1, To: last + 1},
		{From: 5, To: 4}, {From: 60, To: 0}, {From: last + 1, To: last}, {From: last + 1, To: 0},
		{From: 0, To: 61}, {From: 1, To: 62}, {From: 100, To: 161}, {From: last - 60, To: last + 1}, {From: 0, To: last + 1}, {From: 0, To: 1 << 32},
		{From: -1, To: 0}, {From: -1, To: 1}, {From: -60, To: 0}, {From: -30, To: 30}, {From: -1, To: 59},
		{From: last, To: last + 2}, {From: last + 1, To: last + 2}, {From: last - 57, To: last + 2}, {From: last + 2, To: last + 3},
	}
	for _, end := range []int{math.MinInt, math.MinInt + 1, math.MinInt + 60, math.MaxInt - 60, math.MaxInt - 1, math.MaxInt} {
		for _, other := range []int{math.MinInt, -1, 0, 1, last, last + 1, math.MaxInt} {
			all = append(all, api.Spell{From: end, To: other}, api.Spell{From: other, To: end})
		}
	}
	return all
}

// badAreas are areas that are not valid, or have no cell.
func badAreas() []api.Area {
	all := []api.Area{{}, {Rows: []int{}}, globe.Empty()}
	for _, n := range []int{1, 12, 23, 25, 48} {
		full := make([]int, n)
		for y := range full {
			full[y] = 1<<48 - 1
		}
		all = append(all, api.Area{Rows: make([]int, n)}, api.Area{Rows: full})
	}
	for _, row := range []int{-1, math.MinInt, 1 << 48, 1<<48 + 1, math.MaxInt} {
		for _, y := range []int{0, 12, 23} {
			rows := make([]int, 24)
			rows[5], rows[y] = 3, row
			all = append(all, api.Area{Rows: rows})
		}
	}
	return all
}

// P6.1: areas without cells, areas that are not valid, and bad spells have no bounds.
func TestRangeInvalid(t *testing.T) {
	for _, a := range badAreas() {
		for _, s := range slices.Concat(spells(), badSpells()) {
			least, greatest, err := sun.Range(a, s)
			refused(t, "Range of a bad area", err, least, greatest)
		}
	}
	for _, a := range someAreas(t) {
		for _, s := range badSpells() {
			least, greatest, err := sun.Range(a, s)
			refused(t, "Range in a bad spell", err, least, greatest)
		}
	}
}

// P6.1: Range does not change the area, nor what lies beside it in its memory.
func TestRangeChangesNothing(t *testing.T) {
	for _, a := range append(someAreas(t), badAreas()...) {
		memory := slices.Concat([]int{-7, -7}, a.Rows, []int{-7, -7, -7, -7})
		before := slices.Clone(memory)
		for _, s := range []api.Spell{{From: 0, To: 60}, {From: 5, To: 4}} {
			first := boundsOf(sun.Range(api.Area{Rows: memory[2 : 2+len(a.Rows)]}, s))
			if again := boundsOf(sun.Range(a, s)); again != first || !slices.Equal(memory, before) {
				t.Errorf("%x in %v: %v, then %v; %x", a.Rows, s, first, again, memory)
			}
		}
	}
}
