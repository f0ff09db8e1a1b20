package swath_test

import (
	"math"
	"math/rand"
	"testing"

	"nadir/api"
	"nadir/swath"
)

// anyNumber returns a number at an edge, or any one.
func anyNumber(r *rand.Rand) int {
	ends := []int{math.MinInt, math.MaxInt, -11, -10, -5, -4, -1, 0, 1, 4, 5, 10, 11, 59, 60, 61, 299, 300, 301, last - 1, last, last + 1, last + 2}
	if r.Intn(3) > 0 {
		return ends[r.Intn(len(ends))]
	}
	return int(r.Uint64()) >> r.Intn(64)
}

// anyOrbitAtAll returns a valid orbit or, sometimes, one with any number as an element, and whether it is valid.
func anyOrbitAtAll(r *rand.Rand) (api.Orbit, bool) {
	if r.Intn(4) > 0 {
		return anyOrbit(r), true
	}
	bad := badOrbits()
	return bad[r.Intn(len(bad))], false
}

// anySpell returns a spell of about so many minutes, or any one.
func anySpell(r *rand.Rand, most int) api.Spell {
	s := spell(anyNumber(r), anyNumber(r))
	switch r.Intn(4) {
	case 0:
		s.From = r.Intn(last)
		fallthrough
	case 1:
		s.To = s.From + r.Intn(most+4) - 2
	}
	return s
}

// isSpell says whether s has minutes, not more than so many, and all within time.
func isSpell(s api.Spell, most int) bool {
	if s.From < 0 || s.From > last || s.To < 1 || s.To > last+1 {
		return false
	}
	length := s.To - s.From
	return length >= 1 && length <= most
}

// anyArea returns an area that may have too many rows, or too few, or rows that are too great, and whether it is valid.
func anyArea(r *rand.Rand) (api.Area, bool) {
	if r.Intn(3) > 0 {
		var g grid
		for range r.Intn(3) {
			g[r.Intn(24)][r.Intn(48)] = true
		}
		return g.area(), true
	}
	bad := badAreas()
	return bad[r.Intn(len(bad))], false
}

// P8.1: no function panics, and each has either a result or an error, by its arguments, whatever these are.
func TestAnyExposure(t *testing.T) {
	r, valids := rand.New(rand.NewSource(18)), 0
	for range 20000 {
		o, isOrbit := anyOrbitAtAll(r)
		shot, look, late := anySpell(r, 60), anyNumber(r), anyNumber(r)
		if r.Intn(2) == 0 {
			look, late = r.Intn(9)-4, r.Intn(23)-11
		}
		valid := isOrbit && isExposure(shot, look) && isSpell(shot, 60)
		if swath.Valid(o, shot, look) != valid {
			t.Fatalf("%+v in %v, with the look %d", o, shot, look)
		}
		is := valid && late >= -o.Slack && late <= o.Slack
		shown, err := swath.Shown(o, shot, look, late)
		if is != (err == api.OK) || !is && (err != api.ErrSwath || len(shown.Rows) != 0) {
			t.Fatalf("%+v in %v, with the look %d and the delay %d: error %d", o, shot, look, late, err)
		}
		strip, err := swath.Strip(o, shot, look)
		if valid != (err == api.OK) || !valid && (err != api.ErrSwath || len(strip.Sure.Rows)+len(strip.Can.Rows) != 0) {
			t.Fatalf("%+v in %v, with the look %d: error %d", o, shot, look, err)
		}
		b := boundsOf(swath.Suns(o, shot, look))
		if valid && (b.err != api.OK || b.least < -90 || b.least > b.greatest || b.greatest > 90) || !valid && b != (bounds{err: api.ErrSwath}) {
			t.Fatalf("%+v in %v, with the look %d: %v", o, shot, look, b)
		}
		a, isArea := anyArea(r)
		if swath.Shows(o, shot, look, a) && !(valid && isArea) {
			t.Fatalf("%+v in %v, with the look %d, shows %x", o, shot, look, a.Rows)
		}
		if valid {
			valids++
		}
	}
	if valids < 1000 {
		t.Errorf("%d valid exposures", valids)
	}
}

// P8.1: Best does not panic either, for any arguments.
func TestAnyBest(t *testing.T) {
	r, finds := rand.New(rand.NewSource(19)), 0
	for range 5000 {
		o, isOrbit := anyOrbitAtAll(r)
		span, minutes, wide := anySpell(r, 300), anyNumber(r), anyNumber(r)
		if r.Intn(2) == 0 {
			minutes, wide = r.Intn(63), r.Intn(7)-1
		}
		a, isArea := anyArea(r)
		valid := isOrbit && isArea && isSpell(span, 300) && minutes >= 1 && minutes <= 60 && wide >= 0 && wide <= 4
		b := foundOf(swath.Best(o, span, minutes, wide, a))
		switch {
		case !valid:
			if b != (found{err: api.ErrSwath}) {
				t.Fatalf("%+v in %v, %d minutes, wide %d, for %x: %v", o, span, minutes, wide, a.Rows, b)
			}
		case b.is:
			if b.err != api.OK || !swath.Shows(o, b.shot, b.look, a) {
				t.Fatalf("%+v in %v, %d minutes, wide %d, for %x: %v", o, span, minutes, wide, a.Rows, b)
			}
			finds++
		case b != found{}:
			t.Fatalf("%+v in %v, %d minutes, wide %d, for %x: %v", o, span, minutes, wide, a.Rows, b)
		}
	}
	if finds < 50 {
		t.Errorf("found %d times", finds)
	}
}
