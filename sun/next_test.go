package sun_test

import (
	"testing"

	"nadir/api"
	"nadir/sun"
)

// checkNext checks what Next returns for c from k on, against the model.
func checkNext(t *testing.T, m *model, c api.Cell, k int) {
	t.Helper()
	for _, lit := range []bool{false, true} {
		n, err := sun.Next(c, k, lit)
		if want := m.next(c, k, lit); err != api.OK || n != want {
			t.Fatalf("%v from %d on, lit %t: error %d, %d; want %d", c, k, lit, err, n, want)
		}
	}
}

// P6.1: all cells, from the edges of time and of the year on.
func TestNext(t *testing.T) {
	m := newModel()
	for _, c := range everyCell() {
		for _, k := range []int{0, 1, 719, 1439, 1440, 89 * 1440, 90 * 1440, 91*1440 + 700, 180*1440 + 1439, 269*1440 + 1, 270 * 1440, 359*1440 + 1439, last - 1441, last - 1440, last - 1439, last - 720, last - 1, last} {
			checkNext(t, m, c, k)
		}
	}
}

// P6.1: some cells, from all minutes of some days on.
func TestNextOfDays(t *testing.T) {
	m := newModel()
	for _, c := range []api.Cell{cell(0, 0), cell(12, 12), cell(24, 23), cell(47, 1)} {
		for _, d := range []int{0, 14, 90, 345, 346, 359, 692, 693} {
			for k := range dayLong {
				checkNext(t, m, c, d*dayLong+k)
			}
		}
	}
}

// P6.1: the example of the chapter, and the minutes around it.
func TestNextExamples(t *testing.T) {
	c := cell(12, 12)
	for _, x := range []struct {
		c    api.Cell
		t    int
		lit  bool
		want int
	}{
		{c, 0, true, 721}, {c, 0, false, 0}, {c, 719, true, 721}, {c, 720, true, 721}, {c, 721, true, 721}, {c, 722, true, 722}, {c, 720, false, 720}, {c, 721, false, 1410}, {c, 1409, false, 1410}, {c, 1410, false, 1410},
		{c, last, false, last}, {c, last, true, -1},
		// The only lit minute of the first lit day: the last one that is searched, the first one, and one too late.
		{cell(24, 23), 345*1440 + 705, true, 346*1440 + 705},
		{cell(24, 23), 345*1440 + 704, true, -1},
		{cell(24, 23), 346*1440 + 705, true, 346*1440 + 705},
		{cell(24, 23), 346*1440 + 705, false, 346*1440 + 706},
		{cell(24, 23), 346*1440 + 706, true, 347*1440 + 704},
		// A row that is not lit for a part of the year.
		{cell(24, 23), 270 * 1440, true, -1},
		{cell(24, 0), 90 * 1440, true, -1},
	} {
		if n, err := sun.Next(x.c, x.t, x.lit); err != api.OK || n != x.want {
			t.Errorf("%v from %d on, lit %t: error %d, %d; want %d", x.c, x.t, x.lit, err, n, x.want)
		}
	}
}

// P6.1: searches end at the last minute: cells that change only after it are not found.
func TestNextAtTheEnd(t *testing.T) {
	m := newModel()
	late := 0
	for _, c := range everyCell() {
		for k := last - 60; k <= last; k++ {
			checkNext(t, m, c, k)
		}
		now := m.lit(c, last)
		if n, err := sun.Next(c, last, now); err != api.OK || n != last {
			t.Errorf("%v at the last minute: error %d, %d", c, err, n)
		}
		if m.lit(c, last-5) == now && m.lit(c, last+30) != now {
			late++
			for _, k := range []int{last - 5, last - 1, last} {
				if n, err := sun.Next(c, k, !now); err != api.OK || n != -1 {
					t.Errorf("%v from %d on: error %d, %d", c, k, err, n)
				}
			}
		}
	}
	if late == 0 {
		t.Error("no cell changes soon after the last minute")
	}
}

// P6.6: between t and what Next returns, the cell is not as asked for; there it is.
func TestNextIsFirst(t *testing.T) {
	for i, c := range everyCell() {
		for _, start := range []int{0, 90*1440 + 7*i, 271*1440 + 5*i, 359*1440 + i%1440, last - 2*i} {
			for _, lit := range []bool{false, true} {
				end := good(t)(sun.Next(c, start, lit))
				if end == -1 {
					end = min(start+1440, last) + 1
				} else if end < start || end > min(start+1440, last) || sun.Lit(c, end) != lit {
					t.Fatalf("%v from %d on, lit %t: %d", c, start, lit, end)
				}
				for k := start; k < end; k++ {
					if sun.Lit(c, k) == lit {
						t.Fatalf("%v from %d on, lit %t: %d is before %d", c, start, lit, k, end)
					}
				}
			}
		}
	}
}

// P6.1: outside of the globe, and from what is no minute on, there is nothing to search.
func TestNextInvalid(t *testing.T) {
	for _, lit := range []bool{false, true} {
		for _, c := range badCells() {
			for _, k := range append(badMinutes(), 0, 720, last) {
				n, err := sun.Next(c, k, lit)
				refused(t, "Next", err, n)
			}
		}
		for _, k := range badMinutes() {
			for _, c := range everyCell() {
				n, err := sun.Next(c, k, lit)
				refused(t, "Next", err, n)
			}
		}
	}
}
