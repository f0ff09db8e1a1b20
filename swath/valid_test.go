package swath_test

import (
	"testing"

	"nadir/api"
	"nadir/swath"
)

// isExposure says whether an exposure of a valid orbit is valid.
func isExposure(shot api.Spell, look int) bool {
	spells, looks := shot.From >= 0 && shot.To <= 1000001, look >= -4 && look <= 4
	return spells && looks && shot.From < shot.To && shot.To-shot.From <= 60
}

// P8.1: exposures of all orbits, with all looks, in spells of all lengths, at the ends of time and between.
func TestValid(t *testing.T) {
	for _, o := range someOrbits(1, 20) {
		for _, from := range []int{-2, -1, 0, 1, 2, 500000, last - 60, last - 59, last - 58, last - 1, last, last + 1, last + 2} {
			for length := -2; length <= 63; length++ {
				for look := -6; look <= 6; look++ {
					shot := spell(from, from+length)
					if valid := swath.Valid(o, shot, look); valid != isExposure(shot, look) {
						t.Fatalf("%+v in %v, with the look %d: %t", o, shot, look, valid)
					}
				}
			}
		}
	}
}

// badExposure is one that is not valid.
type badExposure struct {
	o    api.Orbit
	shot api.Spell
	look int
}

// badExposures are exposures that are not valid: by the orbit, by the spell, or by the look.
func badExposures() []badExposure {
	var all []badExposure
	for _, o := range badOrbits() {
		for _, shot := range append(shots(), spell(5, 5), spell(-1, 5)) {
			all = append(all, badExposure{o, shot, 0}, badExposure{o, shot, -4}, badExposure{o, shot, 5})
		}
	}
	for _, o := range edgeOrbits() {
		for _, shot := range badSpells(60) {
			all = append(all, badExposure{o, shot, 0}, badExposure{o, shot, 4}, badExposure{o, shot, -5})
		}
		for _, look := range badLooks() {
			all = append(all, badExposure{o, spell(0, 60), look}, badExposure{o, spell(last, last+1), look})
		}
	}
	return all
}

// P8.1: an exposure that is not valid shows nothing; every function says so, and returns nothing else.
func TestInvalid(t *testing.T) {
	for _, x := range badExposures() {
		if swath.Valid(x.o, x.shot, x.look) {
			t.Errorf("%+v is valid", x)
		}
		for _, late := range []int{0, -1, 1, -10, 10, x.o.Slack} {
			if a, err := swath.Shown(x.o, x.shot, x.look, late); err != api.ErrSwath || len(a.Rows) != 0 {
				t.Errorf("Shown of %+v, with the delay %d: error %d, %x", x, late, err, a.Rows)
			}
		}
		if s, err := swath.Strip(x.o, x.shot, x.look); err != api.ErrSwath || len(s.Sure.Rows) != 0 || len(s.Can.Rows) != 0 {
			t.Errorf("Strip of %+v: error %d, %v", x, err, s)
		}
		if swath.Shows(x.o, x.shot, x.look, grid{}.area()) || swath.Shows(x.o, x.shot, x.look, api.Area{}) {
			t.Errorf("Shows of %+v", x)
		}
		if least, greatest, err := swath.Suns(x.o, x.shot, x.look); err != api.ErrSwath || least != 0 || greatest != 0 {
			t.Errorf("Suns of %+v: error %d, %d, %d", x, err, least, greatest)
		}
	}
}
