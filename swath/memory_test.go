package swath_test

import (
	"math/rand"
	"slices"
	"testing"

	"nadir/api"
	"nadir/swath"
)

// scribble overwrites the rows of areas, and their spare capacity.
func scribble(areas ...api.Area) {
	for _, a := range areas {
		rows := a.Rows[:cap(a.Rows)]
		for y := range rows {
			rows[y] = -99
		}
	}
}

// P8.1: results are new memory, also what is shown for sure and possibly, which may be the same cells.
func TestResultsAreNew(t *testing.T) {
	shown, stripped := good[api.Area](t), good[api.Strip](t)
	for _, o := range edgeOrbits() {
		for _, shot := range shots() {
			wantShown, wantStrip := shownBy(t, o, shot, 1, 0), stripBy(t, o, shot, 1)
			first, second := shown(swath.Shown(o, shot, 1, 0)), shown(swath.Shown(o, shot, 1, 0))
			scribble(first)
			if gridOf(t, second) != wantShown || shownBy(t, o, shot, 1, 0) != wantShown {
				t.Fatalf("%+v in %v: areas share memory", o, shot)
			}
			one, two := stripped(swath.Strip(o, shot, 1)), stripped(swath.Strip(o, shot, 1))
			scribble(one.Sure)
			if gridOf(t, one.Can) != wantStrip.can {
				t.Fatalf("%+v in %v: Sure and Can share memory", o, shot)
			}
			scribble(one.Can)
			if gridOf(t, two.Sure) != wantStrip.sure || gridOf(t, two.Can) != wantStrip.can || stripBy(t, o, shot, 1) != wantStrip {
				t.Fatalf("%+v in %v: strips share memory", o, shot)
			}
		}
	}
}

// P8.1: no call changes its area, or what lies beside it in its memory.
func TestAreaStays(t *testing.T) {
	all := append(badAreas(), grid{}.area(), rows(10, 2, 3).area(), rows(12, 5).area(), rows(47, 0, 23).area())
	for _, a := range all {
		memory := slices.Concat([]int{-7, -7}, a.Rows, []int{-7, -7, -7, -7})
		before := slices.Clone(memory)
		given := api.Area{Rows: memory[2 : 2+len(a.Rows)]}
		shows, best := swath.Shows(example(), spell(10, 20), 0, given), foundOf(swath.Best(example(), spell(0, 60), 10, 4, given))
		if !slices.Equal(memory, before) {
			t.Fatalf("%x is changed to %x", before, memory)
		}
		if shows != swath.Shows(example(), spell(10, 20), 0, a) || best != foundOf(swath.Best(example(), spell(0, 60), 10, 4, a)) {
			t.Fatalf("%x: another result with memory beside it", a.Rows)
		}
	}
}

// P8.1: a call gives the same result whatever was called before; the package keeps no state.
func TestNoState(t *testing.T) {
	r := rand.New(rand.NewSource(17))
	for _, o := range edgeOrbits() {
		q := anyQuery(r, o, 60)
		strip, suns, best := stripOf(o, spell(0, 60), 2), sunsOf(t, o, spell(0, 60), 2), q.want()
		for range 30 {
			other := anyOrbit(r)
			switch r.Intn(5) {
			case 0:
				swath.Strip(other, spell(0, 60), 2)
			case 1:
				swath.Suns(other, spell(1, 60), 2)
			case 2:
				anyQuery(r, other, 60).best()
			case 3:
				swath.Shown(o, spell(0, 61), 2, 0)
			case 4:
				swath.Best(o, q.span, q.minutes, q.wide, api.Area{})
			}
			if stripBy(t, o, spell(0, 60), 2) != strip || boundsOf(swath.Suns(o, spell(0, 60), 2)) != suns || q.best() != best {
				t.Fatalf("%+v: another result than before", o)
			}
		}
	}
}
