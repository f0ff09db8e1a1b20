package sun_test

import (
	"testing"

	"nadir/sun"
)

// P6.1: noon and the season, at all minutes.
func TestPlaces(t *testing.T) {
	m := newModel()
	for k := 0; k <= last; k++ {
		noon, season := good(t)(sun.Noon(k)), good(t)(sun.Season(k))
		if noon != m.noon(k) || season != m.season(k) {
			t.Fatalf("at %d: %d, %d; want %d, %d", k, noon, season, m.noon(k), m.season(k))
		}
	}
}

// P6.1: the examples of the chapter for noon, and what is rounded.
func TestNoonExamples(t *testing.T) {
	for _, x := range [][2]int{
		{0, 0}, {30, 47000}, {720, 24000}, {1410, 1000}, {1, 47966}, {2, 47933}, {3, 47900}, {15, 47500}, {719, 24033}, {721, 23966}, {1425, 500}, {1438, 66}, {1439, 33},
		{1440, 0}, {1441, 47966}, {2879, 33}, {518400, 0}, {last - 1, 26700}, {last, 26666},
	} {
		if noon := good(t)(sun.Noon(x[0])); noon != x[1] {
			t.Errorf("at %d: %d, not %d", x[0], noon, x[1])
		}
	}
}

// P6.1: the examples of the chapter for the season, and what is rounded, at the first and the last minute of the day.
func TestSeasonExamples(t *testing.T) {
	for _, x := range [][2]int{
		{0, 12000}, {90, 15000}, {270, 9000}, {45, 13500}, {1, 12033}, {2, 12066}, {3, 12100}, {89, 14966}, {91, 14966}, {92, 14933}, {179, 12033}, {180, 12000}, {181, 11966}, {182, 11933},
		{183, 11900}, {269, 9033}, {271, 9033}, {272, 9066}, {359, 11966}, {360, 12000}, {361, 12033}, {450, 15000}, {630, 9000}, {693, 11100},
	} {
		first, end := good(t)(sun.Season(x[0]*dayLong)), good(t)(sun.Season(x[0]*dayLong+1439))
		if first != x[1] || end != x[1] {
			t.Errorf("on the day %d: %d, %d, not %d", x[0], first, end, x[1])
		}
	}
	if season := good(t)(sun.Season(last)); season != 11133 {
		t.Errorf("at the last minute: %d", season)
	}
}

// P6.1: at what is no minute the sun is nowhere.
func TestPlacesInvalid(t *testing.T) {
	for _, k := range badMinutes() {
		noon, err := sun.Noon(k)
		refused(t, "Noon", err, noon)
		season, err := sun.Season(k)
		refused(t, "Season", err, season)
	}
}

// P6.7: noon is the same every day at the same time, and the season the same in every year.
func TestPlacesAgain(t *testing.T) {
	for k := dayLong; k <= last; k++ {
		if good(t)(sun.Noon(k)) != good(t)(sun.Noon(k-dayLong)) {
			t.Fatalf("noon at %d is not that of the day before", k)
		}
		if before := k - year*dayLong; before >= 0 && good(t)(sun.Season(k)) != good(t)(sun.Season(before)) {
			t.Fatalf("the season at %d is not that of the year before", k)
		}
	}
}

// P6.7: half a year later, the season is as far on the other side of the middle row, but for one thousandth.
func TestSeasonOpposite(t *testing.T) {
	exact := 0
	for k := 0; k+180*dayLong <= last; k++ {
		sum := good(t)(sun.Season(k)) + good(t)(sun.Season(k+180*dayLong))
		if sum != 24000 && sum != 23999 {
			t.Fatalf("at %d and half a year later, both together: %d", k, sum)
		}
		if sum == 24000 {
			exact++
		}
	}
	if exact == 0 {
		t.Error("it is never exactly as far")
	}
}

// P6.7: the season goes through all of the tropics, and never beyond.
func TestSeasonBounds(t *testing.T) {
	least, greatest := 12000, 12000
	for d := range year {
		season := good(t)(sun.Season(d * dayLong))
		least, greatest = min(least, season), max(greatest, season)
	}
	if least != 9000 || greatest != 15000 {
		t.Errorf("from %d to %d", least, greatest)
	}
}
