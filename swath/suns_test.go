package swath_test

import (
	"testing"

	"nadir/api"
	"nadir/sun"
	"nadir/swath"
)

// bounds is what Suns returned.
type bounds struct {
	least, greatest int
	err             api.Errno
}

func boundsOf(least, greatest int, err api.Errno) bounds {
	return bounds{least, greatest, err}
}

// sunsOf returns the least and the greatest height of the sun above what an exposure shows.
func sunsOf(t *testing.T, o api.Orbit, shot api.Spell, look int) bounds {
	t.Helper()
	b := bounds{least: 1000, greatest: -1000}
	for at := shot.From; at < shot.To; at++ {
		for late := -o.Slack; late <= o.Slack; late++ {
			h := good[int](t)(sun.Height(seen(o, look, at, late), at))
			b.least, b.greatest = min(b.least, h), max(b.greatest, h)
		}
	}
	return b
}

// P8.1, P8.6: the bounds of the heights of the sun.
func TestSuns(t *testing.T) {
	differ := 0
	for _, o := range someOrbits(11, 80) {
		for _, shot := range append(shots(), spell(690, 750), spell(130000, 130060)) {
			for look := -4; look <= 4; look++ {
				got, want := boundsOf(swath.Suns(o, shot, look)), sunsOf(t, o, shot, look)
				if got != want {
					t.Fatalf("%+v in %v, with the look %d: %v; want %v", o, shot, look, got, want)
				}
				if got.least != got.greatest {
					differ++
				}
			}
		}
	}
	if differ == 0 {
		t.Error("the bounds are always the same")
	}
}

// P8.6: above each cell that is shown, at each minute and with each delay, the sun is between the bounds, and these are reached.
func TestSunsAreReached(t *testing.T) {
	for i, o := range someOrbits(12, 30) {
		for _, shot := range shots() {
			look := i%9 - 4
			b := boundsOf(swath.Suns(o, shot, look))
			least, greatest := false, false
			for at := shot.From; at < shot.To; at++ {
				for late := -o.Slack; late <= o.Slack; late++ {
					for _, c := range shownBy(t, o, spell(at, at+1), look, late).cells() {
						h := good[int](t)(sun.Height(c, at))
						if h < b.least || h > b.greatest {
							t.Fatalf("%+v in %v, with the look %d: %v; above %v at %d: %d", o, shot, look, b, c, at, h)
						}
						least, greatest = least || h == b.least, greatest || h == b.greatest
					}
				}
			}
			if b.err != api.OK || !least || !greatest {
				t.Fatalf("%+v in %v, with the look %d: %v is not reached", o, shot, look, b)
			}
		}
	}
}

// P8.1: bounds that are known.
func TestSunsExamples(t *testing.T) {
	calm := with(func(o *api.Orbit) { o.Slack = 0 })
	still := api.Orbit{Period: 60, Phase: 7, Low: 12000, High: 12999, Node: 24000, Turn: 0, Slack: 10}
	for _, x := range []struct {
		o    api.Orbit
		shot api.Spell
		look int
		want bounds
	}{
		// The cell 10, 16 and noon at 24000: the distance is 13500 + 4500.
		{calm, spell(720, 721), 0, bounds{-45, -45, api.OK}},
		// The cell 14, 16, and the cell 6, 16.
		{calm, spell(720, 721), 4, bounds{-15, -15, api.OK}},
		{calm, spell(720, 721), -4, bounds{-75, -75, api.OK}},
		// Early by 1, it is above the cell 10, 15.
		{example(), spell(720, 721), 0, bounds{-45, -37, api.OK}},
		// It stays above one cell, so that the delays are the same, whatever they are: the distance is 500 + 500.
		{still, spell(720, 721), 0, bounds{83, 83, api.OK}},
		// The cell 28, 12: the distance is 4500 + 500 in the first minute, and 6467 + 500 in the last one.
		{still, spell(720, 780), 4, bounds{38, 53, api.OK}},
		// The cell 24, 12 at the minute 0, and at the last one, with noon at 26666 and the season at 11133.
		{still, spell(0, 1), 0, bounds{-90, -90, api.OK}},
		{still, spell(last, last+1), 0, bounds{64, 64, api.OK}},
	} {
		if got := boundsOf(swath.Suns(x.o, x.shot, x.look)); got != x.want {
			t.Errorf("%+v in %v, with the look %d: %v; want %v", x.o, x.shot, x.look, got, x.want)
		}
	}
}
