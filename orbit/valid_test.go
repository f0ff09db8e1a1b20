package orbit_test

import (
	"testing"

	"nadir/api"
	"nadir/orbit"
)

// checkValid checks whether the orbit of the examples is valid with each of some values of an element.
func checkValid(t *testing.T, name string, from, to, least, greatest int, set func(*api.Orbit, int)) {
	t.Helper()
	for n := from; n <= to; n++ {
		o := with(func(o *api.Orbit) { set(o, n) })
		if valid := orbit.Valid(o); valid != (least <= n && n <= greatest) {
			t.Errorf("%s %d: %t", name, n, valid)
		}
	}
}

// P7.1: each element is valid within its bounds, and nowhere else.
func TestValidElements(t *testing.T) {
	checkValid(t, "Phase", -5, 105, 0, 99, func(o *api.Orbit, n int) { o.Phase = n })
	checkValid(t, "Phase in the shortest Period", -5, 30, 0, 19, func(o *api.Orbit, n int) { o.Period, o.Phase = 20, n })
	checkValid(t, "Phase in the longest Period", -5, 2010, 0, 1999, func(o *api.Orbit, n int) { o.Period, o.Phase = 2000, n })
	checkValid(t, "Low", -5, 24010, 0, 21999, func(o *api.Orbit, n int) { o.Low = n })
	checkValid(t, "Low below the greatest High", -5, 24010, 0, 23998, func(o *api.Orbit, n int) { o.Low, o.High = n, 23999 })
	checkValid(t, "High", -5, 24010, 2001, 23999, func(o *api.Orbit, n int) { o.High = n })
	checkValid(t, "High above the least Low", -5, 24010, 1, 23999, func(o *api.Orbit, n int) { o.Low, o.High = 0, n })
	checkValid(t, "Node", -5, 48010, 0, 47999, func(o *api.Orbit, n int) { o.Node = n })
	checkValid(t, "Turn", -2010, 2010, -2000, 2000, func(o *api.Orbit, n int) { o.Turn = n })
	checkValid(t, "Slack", -5, 20, 0, 10, func(o *api.Orbit, n int) { o.Slack = n })
}

// P7.1: a Period is valid if it is even, and within its bounds.
func TestValidPeriod(t *testing.T) {
	for n := -2010; n <= 4010; n++ {
		even := n/2*2 == n
		if valid := orbit.Valid(with(func(o *api.Orbit) { o.Period = n })); valid != (even && n >= 20 && n <= 2000) {
			t.Errorf("Period %d: %t", n, valid)
		}
	}
}

// P7.1: valid orbits are valid, and others are not.
func TestValid(t *testing.T) {
	for _, o := range someOrbits(1, 1000) {
		if !orbit.Valid(o) {
			t.Errorf("%+v is not valid", o)
		}
	}
	for _, o := range badOrbits() {
		if orbit.Valid(o) {
			t.Errorf("%+v is valid", o)
		}
	}
}
