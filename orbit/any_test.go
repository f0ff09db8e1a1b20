package orbit_test

import (
	"math"
	"math/rand"
	"slices"
	"testing"

	"nadir/api"
	"nadir/orbit"
)

// anyNumber returns a number at an edge, or any one.
func anyNumber(r *rand.Rand) int {
	ends := []int{math.MinInt, math.MaxInt, -2001, -2000, -11, -10, -1, 0, 1, 10, 11, 19, 20, 1999, 2000, 2001, 2002, 3000, 3001, 23999, 24000, 47999, 48000, last - 1, last, last + 1}
	if r.Intn(3) > 0 {
		return ends[r.Intn(len(ends))]
	}
	return int(r.Uint64()) >> r.Intn(64)
}

// changed returns o with any number as some element, or as none.
func changed(r *rand.Rand, o api.Orbit) api.Orbit {
	elements := []*int{&o.Period, &o.Phase, &o.Low, &o.High, &o.Node, &o.Turn, &o.Slack}
	if i := r.Intn(2 * len(elements)); i < len(elements) {
		*elements[i] = anyNumber(r)
	}
	return o
}

// isValid says whether o is valid.
func isValid(o api.Orbit) bool {
	outside := o.Period < 20 || o.Period > 2000 || o.Phase < 0 || o.Low < 0 || o.High > 23999 || o.Node < 0 || o.Node > 47999 || o.Turn < -2000 || o.Turn > 2000 || o.Slack < 0 || o.Slack > 10
	return !outside && o.Period&1 == 0 && o.Phase < o.Period && o.Low < o.High
}

// P7.1: no function panics, and each has either a result or an error, by its arguments, whatever these are.
func TestAnyArguments(t *testing.T) {
	r := rand.New(rand.NewSource(15))
	for range 100000 {
		o, at, late := changed(r, anyOrbit(r)), anyNumber(r), anyNumber(r)
		if r.Intn(2) == 0 {
			at, late = r.Intn(last+1), r.Intn(21)-10
		}
		valid, minute, delay := isValid(o), at >= 0 && at <= last, late >= -10 && late <= 10
		if orbit.Valid(o) != valid {
			t.Fatalf("%+v", o)
		}
		if valid && minute && delay {
			p := placesOf(t, o, at, late)
			if p.row < o.Low || p.row > o.High || p.column < 0 || p.column > 47999 || p.at != cell(p.column/1000, p.row/1000) {
				t.Errorf("%+v at %d, with the delay %d: %v", o, at, late, p)
			}
		} else {
			refusedPlaces(t, o, at, late)
		}
		could, err := orbit.Could(o, at)
		must, is := orbit.Must(o, at)
		if valid && minute != (err == api.OK) || !valid && err != api.ErrOrbit || (err == api.OK) != (len(could) > 0) || is != (len(could) == 1) || !is && must != (api.Cell{}) {
			t.Errorf("%+v at %d: error %d, %v; %t, %v", o, at, err, could, is, must)
		}
	}
}

// P7.1: Track does not panic either, for any orbit, spell and delay.
func TestAnyTrack(t *testing.T) {
	r := rand.New(rand.NewSource(16))
	for range 30000 {
		o, s, late := changed(r, anyOrbit(r)), api.Spell{From: anyNumber(r), To: anyNumber(r)}, anyNumber(r)
		if r.Intn(2) == 0 {
			s.From, late = r.Intn(last+1), r.Intn(21)-10
			s.To = s.From + r.Intn(60) - 5
		}
		valid := isValid(o) && s.From >= 0 && s.To <= last && s.From <= s.To && s.To-s.From <= 3000 && late >= -10 && late <= 10
		cells, err := orbit.Track(o, s, late)
		if valid && (err != api.OK || len(cells) != s.To-s.From) || !valid && (err != api.ErrOrbit || len(cells) != 0) {
			t.Errorf("%+v in %v, with the delay %d: error %d, %d cells", o, s, late, err, len(cells))
		}
	}
}

// P7.1: a call gives the same result whatever was called before; the package keeps no state.
func TestNoState(t *testing.T) {
	r := rand.New(rand.NewSource(17))
	for _, o := range edgeOrbits() {
		w := newWalk(o)
		for range 300 {
			other, at := changed(r, anyOrbit(r)), r.Intn(last-20)
			switch r.Intn(4) {
			case 0:
				orbit.At(other, anyNumber(r), anyNumber(r))
			case 1:
				orbit.Track(other, api.Spell{From: at, To: at + 7}, 0)
			case 2:
				orbit.Could(other, at)
			case 3:
				orbit.Must(o, at+1)
			}
			checkPlaces(t, o, w, at, 3)
			checkDoubt(t, o, at, w.could(at, o.Slack))
			if track := good[[]api.Cell](t)(orbit.Track(o, api.Spell{From: at, To: at + 2}, 3)); !slices.Equal(track, []api.Cell{w.cell(at, 3), w.cell(at+1, 3)}) {
				t.Fatalf("%+v at %d: %v", o, at, track)
			}
		}
	}
}
