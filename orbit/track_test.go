package orbit_test

import (
	"slices"
	"testing"

	"nadir/api"
	"nadir/orbit"
)

// spells are empty, of one minute, of the most minutes, and others, at the ends of time and between.
func spells() []api.Spell {
	return []api.Spell{
		{From: 0, To: 0}, {From: 0, To: 1}, {From: 0, To: 2}, {From: 0, To: 2999}, {From: 0, To: 3000}, {From: 1, To: 3001},
		{From: 9, To: 9}, {From: 9, To: 10}, {From: 9, To: 11}, {From: 45, To: 155}, {From: 500000, To: 503000},
		{From: last, To: last}, {From: last - 1, To: last - 1}, {From: last - 1, To: last}, {From: last - 2999, To: last}, {From: last - 3000, To: last}, {From: last - 3000, To: last - 1},
	}
}

// P7.1, P7.6: a track has the cells of its minutes, in order.
func TestTrack(t *testing.T) {
	for _, o := range someOrbits(7, 30) {
		w := newWalk(o)
		for _, s := range spells() {
			for _, late := range []int{-10, -9, -1, 0, 1, 10} {
				var want, each []api.Cell
				for at := s.From; at < s.To; at++ {
					want = append(want, w.cell(at, late))
					each = append(each, good[api.Cell](t)(orbit.At(o, at, late)))
				}
				if got := good[[]api.Cell](t)(orbit.Track(o, s, late)); !slices.Equal(got, want) || !slices.Equal(got, each) {
					t.Fatalf("%+v in %v, with the delay %d: %d cells", o, s, late, len(got))
				}
			}
		}
	}
}

// P7.1: tracks that are known.
func TestTrackExamples(t *testing.T) {
	for _, x := range []struct {
		s    api.Spell
		late int
		want []api.Cell
	}{
		{api.Spell{From: 9, To: 11}, 0, []api.Cell{cell(9, 5), cell(10, 6)}},
		{api.Spell{From: 9, To: 10}, 0, []api.Cell{cell(9, 5)}},
		{api.Spell{From: 9, To: 9}, 0, nil},
		{api.Spell{From: 0, To: 0}, 10, nil},
		{api.Spell{From: last, To: last}, -10, nil},
		{api.Spell{From: 10, To: 13}, 1, []api.Cell{cell(9, 5), cell(10, 6), cell(10, 6)}},
		{api.Spell{From: 8, To: 10}, -1, []api.Cell{cell(9, 5), cell(10, 6)}},
		// Before the minute 0.
		{api.Spell{From: 0, To: 3}, 10, []api.Cell{cell(0, 6), cell(0, 5), cell(1, 5)}},
		// Around the column 0, and over the turning point.
		{api.Spell{From: 84, To: 88}, 0, []api.Cell{cell(47, 8), cell(47, 8), cell(0, 7), cell(0, 7)}},
		{api.Spell{From: 48, To: 53}, 0, []api.Cell{cell(29, 21), cell(29, 21), cell(30, 22), cell(30, 21), cell(31, 21)}},
	} {
		if got := good[[]api.Cell](t)(orbit.Track(example(), x.s, x.late)); !slices.Equal(got, x.want) {
			t.Errorf("in %v, with the delay %d: %v; want %v", x.s, x.late, got, x.want)
		}
	}
}

// refusedTrack checks that there is no track.
func refusedTrack(t *testing.T, o api.Orbit, s api.Spell, late int) {
	t.Helper()
	if cells, err := orbit.Track(o, s, late); err != api.ErrOrbit || len(cells) != 0 {
		t.Errorf("%+v in %v, with the delay %d: error %d, %d cells", o, s, late, err, len(cells))
	}
}

// P7.1: without a valid orbit, a spell within its bounds and a delay, there is no track.
func TestTrackInvalid(t *testing.T) {
	for _, o := range badOrbits() {
		for _, s := range append(badSpells(), spells()...) {
			refusedTrack(t, o, s, 0)
		}
		refusedTrack(t, o, api.Spell{From: 5, To: 9}, 11)
	}
	for _, o := range edgeOrbits() {
		for _, s := range badSpells() {
			for _, late := range append(badDelays(), -10, 0, 10) {
				refusedTrack(t, o, s, late)
			}
		}
		for _, s := range spells() {
			for _, late := range badDelays() {
				refusedTrack(t, o, s, late)
			}
		}
	}
}

// P7.6: a track is that of its parts, one after the other.
func TestTrackOfParts(t *testing.T) {
	track := good[[]api.Cell](t)
	for _, o := range someOrbits(8, 30) {
		for _, s := range spells() {
			for _, late := range []int{-10, 0, 7} {
				whole := track(orbit.Track(o, s, late))
				for middle := s.From; middle <= s.To; middle += 1 + (s.To-s.From)/15 {
					first := track(orbit.Track(o, api.Spell{From: s.From, To: middle}, late))
					second := track(orbit.Track(o, api.Spell{From: middle, To: s.To}, late))
					if !slices.Equal(whole, slices.Concat(first, second)) {
						t.Fatalf("%+v in %v, with the delay %d, up to %d and from there", o, s, late, middle)
					}
				}
			}
		}
	}
}

// P7.1: a result is new memory, with what it has beyond its length.
func TestTrackIsNew(t *testing.T) {
	s, track := api.Spell{From: 9, To: 80}, good[[]api.Cell](t)
	want := slices.Clone(track(orbit.Track(example(), s, 0)))
	first, second := track(orbit.Track(example(), s, 0)), track(orbit.Track(example(), s, 0))
	all := first[:cap(first)]
	for i := range all {
		all[i] = cell(-7, -7)
	}
	if third := track(orbit.Track(example(), s, 0)); !slices.Equal(second, want) || !slices.Equal(third, want) {
		t.Errorf("changed by a change of another result: %v, %v", second, third)
	}
}
