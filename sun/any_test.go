package sun_test

import (
	"math"
	"math/rand"
	"testing"

	"nadir/api"
	"nadir/globe"
	"nadir/sun"
)

// anyNumber returns a number at an edge, or any one.
func anyNumber(r *rand.Rand) int {
	ends := []int{math.MinInt, math.MaxInt, -1, 0, 1, 12, 23, 24, 47, 48, 60, 720, 1440, last - 1, last, last + 1, last + 2}
	if r.Intn(3) > 0 {
		return ends[r.Intn(len(ends))]
	}
	return int(r.Uint64()) >> r.Intn(64)
}

// P6.1: no function panics, and each has either a result or an error, by its arguments, whatever these are.
func TestAnyArguments(t *testing.T) {
	r := rand.New(rand.NewSource(2))
	for range 30000 {
		c, k := cell(anyNumber(r), anyNumber(r)), anyNumber(r)
		minute := k >= 0 && k <= last
		check := func(name string, err api.Errno, valid bool, n, least, greatest int) {
			t.Helper()
			if valid && (err != api.OK || n < least || n > greatest) || !valid && (err != api.ErrSun || n != 0) {
				t.Errorf("%s of %v at %d: error %d, %d", name, c, k, err, n)
			}
		}
		noon, err := sun.Noon(k)
		check("Noon", err, minute, noon, 0, 47999)
		season, err := sun.Season(k)
		check("Season", err, minute, season, 9000, 15000)
		h, err := sun.Height(c, k)
		check("Height", err, minute && globe.ValidCell(c), h, -90, 90)
		next, err := sun.Next(c, k, r.Intn(2) == 0)
		check("Next", err, minute && globe.ValidCell(c), next, -1, last)
		if (sun.Lit(c, k) || sun.Dark(c, k)) && err != api.OK {
			t.Errorf("%v at %d has light or shadow", c, k)
		}
	}
}

// P6.1: Range does not panic either, for any rows and any spell.
func TestAnyRange(t *testing.T) {
	r := rand.New(rand.NewSource(3))
	for range 3000 {
		a := api.Area{Rows: make([]int, 23+r.Intn(3))}
		for y := range a.Rows {
			a.Rows[y] = int(r.Uint64() >> (15 + r.Intn(49)))
		}
		s := api.Spell{From: anyNumber(r), To: anyNumber(r)}
		if r.Intn(2) == 0 {
			s = api.Spell{From: r.Intn(last), To: 0}
			s.To = s.From + r.Intn(70) - 3
		}
		valid := globe.Count(a) > 0 && s.From >= 0 && s.To <= last+1 && s.To > s.From && s.To-s.From <= 60
		b := boundsOf(sun.Range(a, s))
		if valid && (b.err != api.OK || b.least < -90 || b.greatest > 90 || b.least > b.greatest) || !valid && b != (bounds{0, 0, api.ErrSun}) {
			t.Errorf("%x in %v: %v", a.Rows, s, b)
		}
	}
}

// P6.1: a call gives the same result whatever was called before; the package keeps no state.
func TestNoState(t *testing.T) {
	m, r := newModel(), rand.New(rand.NewSource(4))
	for range 3000 {
		c, k := cell(r.Intn(48), r.Intn(24)), r.Intn(last+1)
		switch r.Intn(6) {
		case 0:
			sun.Noon(anyNumber(r))
			sun.Season(anyNumber(r))
		case 1:
			sun.Height(cell(anyNumber(r), 3), k)
		case 2:
			sun.Next(c, anyNumber(r), k%2 == 0)
		case 3:
			sun.Range(of(t, c), api.Spell{From: k, To: k + r.Intn(99)})
		}
		if good(t)(sun.Noon(k)) != m.noon(k) || good(t)(sun.Season(k)) != m.season(k) || good(t)(sun.Height(c, k)) != m.height(c, k) || sun.Lit(c, k) != m.lit(c, k) {
			t.Fatalf("%v at %d", c, k)
		}
	}
}
