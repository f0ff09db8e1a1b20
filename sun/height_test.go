package sun_test

import (
	"testing"

	"nadir/api"
	"nadir/sun"
)

// checkHeights checks the heights and the light of all cells at t.
func checkHeights(t *testing.T, m *model, cells []api.Cell, at int) {
	t.Helper()
	for _, c := range cells {
		h, err := sun.Height(c, at)
		want := m.height(c, at)
		if err != api.OK || h != want {
			t.Fatalf("%v at %d: error %d, %d; want %d", c, at, err, h, want)
		}
		if lit, dark := sun.Lit(c, at), sun.Dark(c, at); lit != (want >= 1) || dark != (want <= -21) {
			t.Fatalf("%v at %d, with the height %d: lit %t, dark %t", c, at, want, lit, dark)
		}
	}
}

// P6.1: the heights of all cells, at all minutes of days at the turns of the year.
func TestHeightOfDays(t *testing.T) {
	m, cells := newModel(), everyCell()
	for _, d := range []int{0, 90, 91, 180, 270, 271, 359, 450} {
		for k := range dayLong {
			checkHeights(t, m, cells, d*dayLong+k)
		}
	}
}

// P6.1: the heights of all cells, on all days, and at the edges.
func TestHeightOfYears(t *testing.T) {
	m, cells := newModel(), everyCell()
	for k := 0; k <= last; k += 1439 {
		checkHeights(t, m, cells, k)
	}
	for _, k := range edgeMinutes() {
		checkHeights(t, m, cells, k)
	}
}

// example is a cell, a minute, and what the sun does there.
type example struct {
	c         api.Cell
	t         int
	want      int
	lit, dark bool
}

// examples are those of the chapter, and heights at the bounds of what is lit and dark, on both sides of noon and half a turn away from it.
func examples() []example {
	return []example{
		{cell(0, 12), 0, 83, true, false},
		{cell(24, 12), 0, -90, false, true},
		{cell(12, 12), 0, -7, false, false},
		// On both sides of noon.
		{cell(47, 12), 0, 83, true, false},
		{cell(47, 11), 0, 83, true, false},
		{cell(0, 11), 0, 83, true, false},
		{cell(1, 12), 0, 75, true, false},
		{cell(46, 12), 0, 75, true, false},
		{cell(23, 12), 720, 83, true, false},
		{cell(24, 12), 720, 83, true, false},
		{cell(0, 12), 1439, 83, true, false},
		// The sun is above the middle of the cell.
		{cell(47, 12), 15*1440 + 15, 90, true, false},
		{cell(0, 12), 15*1440 + 1425, 90, true, false},
		{cell(24, 12), 15*1440 + 705, 90, true, false},
		// Half a turn away: exactly -90, almost, and what would be below.
		{cell(23, 12), 0, -90, false, true},
		{cell(24, 11), 0, -90, false, true},
		{cell(24, 12), 1, -89, false, true},
		{cell(0, 0), 720, -90, false, true},
		{cell(23, 23), 0, -90, false, true},
		{cell(23, 0), 90 * 1440, -90, false, true},
		// 0 is not lit, 1 is.
		{cell(11, 12), 0, 0, false, false},
		{cell(36, 12), 0, 0, false, false},
		{cell(0, 0), 0, 0, false, false},
		{cell(0, 23), 0, 0, false, false},
		{cell(24, 23), 346*1440 + 704, 0, false, false},
		{cell(24, 23), 346*1440 + 705, 1, true, false},
		{cell(24, 23), 346*1440 + 706, 0, false, false},
		// -20 is not dark, -21 is.
		{cell(34, 13), 10, -19, false, false},
		{cell(34, 13), 7, -20, false, false},
		{cell(34, 13), 6, -21, false, true},
		{cell(13, 12), 0, -15, false, false},
		{cell(14, 12), 0, -22, false, true},
	}
}

// P6.1: the examples.
func TestHeightExamples(t *testing.T) {
	for _, x := range examples() {
		h, err := sun.Height(x.c, x.t)
		lit, dark := sun.Lit(x.c, x.t), sun.Dark(x.c, x.t)
		if err != api.OK || h != x.want || lit != x.lit || dark != x.dark {
			t.Errorf("%v at %d: error %d, %d, lit %t, dark %t; want %d", x.c, x.t, err, h, lit, dark, x.want)
		}
	}
}

// P6.1: outside of the globe, and at what is no minute, there is no height, no light and no dark.
func TestHeightInvalid(t *testing.T) {
	check := func(c api.Cell, k int) {
		h, err := sun.Height(c, k)
		refused(t, "Height", err, h)
		if sun.Lit(c, k) || sun.Dark(c, k) {
			t.Errorf("%v at %d: lit %t, dark %t", c, k, sun.Lit(c, k), sun.Dark(c, k))
		}
	}
	// At 720, cells near the column 24 are lit, and those near the column 0 are dark.
	minutes := []int{0, 720, 1439, 518400, last}
	for _, c := range badCells() {
		for _, k := range append(minutes, badMinutes()...) {
			check(c, k)
		}
	}
	for _, k := range badMinutes() {
		for _, c := range everyCell() {
			check(c, k)
		}
	}
}

// P6.5: where it is lit, no satellite is in the dark; and in between, it is neither.
func TestLitOrDark(t *testing.T) {
	lit, dark, dusk := 0, 0, 0
	for _, k := range edgeMinutes() {
		for _, c := range everyCell() {
			h, l, d := good(t)(sun.Height(c, k)), sun.Lit(c, k), sun.Dark(c, k)
			if l && d || l != (h > 0) || d != (h < -20) {
				t.Fatalf("%v at %d, with the height %d: lit %t, dark %t", c, k, h, l, d)
			}
			switch {
			case l:
				lit++
			case d:
				dark++
			default:
				dusk++
			}
		}
	}
	if lit == 0 || dark == 0 || dusk == 0 {
		t.Errorf("%d lit, %d dark, %d at dusk", lit, dark, dusk)
	}
}
