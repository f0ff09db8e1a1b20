package globe_test

import (
	"math/rand"
	"slices"
	"testing"

	"nadir/api"
	"nadir/globe"
)

// pair is two grids.
type pair struct {
	a, b grid
}

// pairs are all pairs of grids, those of a grid and itself among them.
func pairs(seed int64) []pair {
	var all []pair
	l := grids(rand.New(rand.NewSource(seed)))
	for _, a := range l {
		for _, b := range l {
			all = append(all, pair{a, b})
		}
	}
	return all
}

// P5.1, P5.2: union, meet and less are those of sets of cells, which are as many as sets have.
func TestSets(t *testing.T) {
	for i, p := range pairs(10) {
		a, b := p.a.area(), p.b.area()
		union, meet, less := got(globe.Union(a, b)), got(globe.Meet(a, b)), got(globe.Less(a, b))
		union.check(t, p.a.joined(p.b, func(inA, inB bool) bool { return inA || inB }), "Union", i)
		meet.check(t, p.a.joined(p.b, func(inA, inB bool) bool { return inA && inB }), "Meet", i)
		less.check(t, p.a.joined(p.b, func(inA, inB bool) bool { return inA && !inB }), "Less", i)
		if globe.Count(union.area) != globe.Count(a)+globe.Count(b)-globe.Count(meet.area) {
			t.Errorf("pair %d: the cells of the union are %d", i, globe.Count(union.area))
		}
		if globe.Count(less.area) != globe.Count(a)-globe.Count(meet.area) {
			t.Errorf("pair %d: the cells of the difference are %d", i, globe.Count(less.area))
		}
	}
}

// P5.2: the laws of sets: in any order, in any grouping, with themselves, and without.
func TestSetLaws(t *testing.T) {
	r := rand.New(rand.NewSource(11))
	all := areas(12)
	union := func(a, b api.Area) api.Area { return must(t)(globe.Union(a, b)) }
	meet := func(a, b api.Area) api.Area { return must(t)(globe.Meet(a, b)) }
	less := func(a, b api.Area) api.Area { return must(t)(globe.Less(a, b)) }
	for i := range 500 {
		a, b, c := all[r.Intn(len(all))], all[r.Intn(len(all))], all[r.Intn(len(all))]
		for j, same := range []bool{
			globe.Same(union(a, b), union(b, a)),
			globe.Same(meet(a, b), meet(b, a)),
			globe.Same(union(a, union(b, c)), union(union(a, b), c)),
			globe.Same(meet(a, meet(b, c)), meet(meet(a, b), c)),
			globe.Same(meet(a, union(b, c)), union(meet(a, b), meet(a, c))),
			globe.Same(less(a, union(b, c)), meet(less(a, b), less(a, c))),
			globe.Same(union(less(a, b), meet(a, b)), a),
			globe.Same(less(a, a), globe.Empty()),
			globe.Same(union(a, a), a) && globe.Same(meet(a, a), a),
			globe.Same(union(a, globe.Empty()), a) && globe.Same(less(a, globe.Empty()), a),
		} {
			if !same {
				t.Errorf("law %d, case %d: %x, %x, %x", j, i, a.Rows, b.Rows, c.Rows)
			}
		}
	}
}

// P5.1, P5.2: an area contains another one if it has all of its cells.
func TestContains(t *testing.T) {
	for i, p := range pairs(13) {
		a, b := p.a.area(), p.b.area()
		want := true
		for _, c := range p.b.list() {
			want = want && p.a[c.Y][c.X]
		}
		if globe.Contains(a, b) != want {
			t.Errorf("pair %d: %t", i, !want)
		}
		union, meet := must(t)(globe.Union(a, b)), must(t)(globe.Meet(a, b))
		if !globe.Contains(union, a) || !globe.Contains(union, b) || !globe.Contains(a, meet) || !globe.Contains(b, meet) {
			t.Errorf("pair %d: the union does not contain both, or not both what meets", i)
		}
	}
}

// P5.1: a single cell that is missing, at any place, is enough not to contain an area.
func TestContainsAllBut(t *testing.T) {
	all := must(t)(globe.Box(cell(0, 0), 48, 24))
	for _, c := range everyCell() {
		one := must(t)(globe.Box(c, 1, 1))
		but := must(t)(globe.Less(all, one))
		if globe.Contains(but, all) || globe.Contains(but, one) || !globe.Contains(all, but) || !globe.Contains(all, one) {
			t.Errorf("%v", c)
		}
	}
}

// P5.1: an area has the cells that it has, and with one more that one too.
func TestHasAndWith(t *testing.T) {
	for i, g := range grids(rand.New(rand.NewSource(14))) {
		a := g.area()
		for _, c := range everyCell() {
			if globe.Has(a, c) != g[c.Y][c.X] {
				t.Errorf("grid %d, %v: %t", i, c, globe.Has(a, c))
			}
			more, err := globe.With(a, c)
			want := slices.Clone(a.Rows)
			if !g[c.Y][c.X] {
				want[c.Y] += 1 << c.X
			}
			if err != api.OK || !slices.Equal(more.Rows, want) {
				t.Errorf("grid %d with %v: error %d, %x", i, c, err, more.Rows)
			}
		}
		for _, c := range badCells() {
			got(globe.With(a, c)).refused(t, "With", c.X, c.Y)
			if globe.Has(a, c) {
				t.Errorf("grid %d has %v", i, c)
			}
		}
	}
}
