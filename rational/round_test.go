package rational_test

import (
	"math"
	"math/big"
	"math/rand"
	"strconv"
	"testing"

	"nadir/api"
	"nadir/rational"
)

// scale returns 10 to the power of places.
func scale(places int) *big.Int {
	return plain(power(places, 0))
}

// plainRound returns the multiples of 1 / 10^places next to r, from below and from above.
func plainRound(r api.Ratio, places int) (down, up api.Ratio, err api.Errno) {
	scaled := product(r.Num, power(places, 0))
	if scaled == nil {
		return api.Ratio{}, api.Ratio{}, api.ErrRational
	}
	quotient, rest := new(big.Int).DivMod(scaled, plain(r.Den), new(big.Int))
	down, _ = reduced(quotient, scale(places))
	if rest.Sign() != 0 {
		quotient = new(big.Int).Add(quotient, big.NewInt(1))
	}
	up, _ = reduced(quotient, scale(places))
	return down, up, api.OK
}

// rounded are fractions to be rounded: edges, random ones, and multiples of 1 / 10^n and their neighbours.
func rounded() []api.Ratio {
	r := rand.New(rand.NewSource(16))
	all := append(edges(), randomFractions(r, 3)...)
	for range 20 {
		multiple := new(big.Rat).SetFrac(randomInteger(r, 40), scale(r.Intn(31)))
		little := new(big.Rat).SetFrac(big.NewInt(1), scale(31+r.Intn(30)))
		all = append(all, fraction(multiple), fraction(new(big.Rat).Add(multiple, little)), fraction(new(big.Rat).Sub(multiple, little)))
	}
	return all
}

// somePlaces are places, the least and the greatest number of them included.
func somePlaces() []int {
	return []int{0, 1, 2, 3, 7, 15, 29, 30}
}

// P4.1: the examples of the chapter, and integers of 200 digits.
func TestRoundKnown(t *testing.T) {
	for _, x := range []struct {
		r        string
		places   int
		down, up string
	}{
		{"1/3", 2, "33/100", "17/50"}, {"-1/3", 2, "-17/50", "-33/100"}, {"7", 3, "7", "7"}, {"-7", 0, "-7", "-7"}, {"0", 0, "0", "0"}, {"0", 30, "0", "0"},
		{"1/2", 0, "0", "1"}, {"-1/2", 0, "-1", "0"}, {"1/2", 1, "1/2", "1/2"}, {"-1/8", 3, "-1/8", "-1/8"}, {"1/8", 2, "3/25", "13/100"},
		{"1/" + power(30, 0), 30, "1/" + power(30, 0), "1/" + power(30, 0)}, {"1/" + power(30, 0), 29, "0", "1/" + power(29, 0)}, {"1/" + power(31, 0), 30, "0", "1/" + power(30, 0)}, {"-1/" + power(31, 0), 30, "-1/" + power(30, 0), "0"},
		{digits(200, "9"), 0, digits(200, "9"), digits(200, "9")}, {"-" + digits(200, "9"), 0, "-" + digits(200, "9"), "-" + digits(200, "9")}, {digits(199, "9"), 1, digits(199, "9"), digits(199, "9")},
		{"1/" + digits(200, "9"), 30, "0", "1/" + power(30, 0)}, {"-1/" + digits(200, "9"), 0, "-1", "0"}, {digits(200, "9") + "/2", 0, "4" + digits(199, "9"), "5" + digits(199, "0")}, {"-" + digits(200, "9") + "/2", 0, "-5" + digits(199, "0"), "-4" + digits(199, "9")},
		{digits(170, "9"), 30, digits(170, "9"), digits(170, "9")},
	} {
		down, err := rational.Down(read(x.r), x.places)
		check(t, "Down("+x.r+", "+strconv.Itoa(x.places)+")", down, err, read(x.down), api.OK)
		up, err := rational.Up(read(x.r), x.places)
		check(t, "Up("+x.r+", "+strconv.Itoa(x.places)+")", up, err, read(x.up), api.OK)
	}
}

// P4.1, P4.2: Down and Up for all places, and where they are too large.
func TestRound(t *testing.T) {
	made, refused := 0, 0
	for _, r := range rounded() {
		for places := 0; places <= 30; places++ {
			wantDown, wantUp, wantErr := plainRound(r, places)
			name := " of " + short(r) + " to " + strconv.Itoa(places) + " places"
			down, err := rational.Down(r, places)
			check(t, "Down"+name, down, err, wantDown, wantErr)
			up, err := rational.Up(r, places)
			check(t, "Up"+name, up, err, wantUp, wantErr)
			if err == api.OK {
				made++
			} else {
				refused++
			}
		}
	}
	if made < 1000 || refused < 300 {
		t.Errorf("only %d results and %d refusals", made, refused)
	}
}

// P4.1: places below 0 and above 30, and fractions that are not valid.
func TestRoundRefuses(t *testing.T) {
	for _, round := range []func(api.Ratio, int) (api.Ratio, api.Errno){rational.Down, rational.Up} {
		for _, places := range []int{-1, -2, -30, math.MinInt, 31, 32, 200, 1 << 40, math.MaxInt} {
			for _, r := range []api.Ratio{read("0"), read("1"), read("-1/3"), read(digits(200, "9")), {}} {
				got, err := round(r, places)
				checkRefused(t, "rounding "+short(r)+" to "+strconv.Itoa(places)+" places", got, err)
			}
		}
		for _, r := range invalid() {
			for _, places := range []int{0, 2, 30} {
				got, err := round(r, places)
				checkRefused(t, "rounding "+short(r), got, err)
			}
		}
	}
}

// P4.5: Down and Up are multiples of 1 / t, with the value between them; they are equal exactly if it is one, and otherwise differ by 1 / t.
func TestRoundBounds(t *testing.T) {
	for _, r := range rounded() {
		for _, places := range somePlaces() {
			down, err := rational.Down(r, places)
			up, upErr := rational.Up(r, places)
			if err != upErr {
				t.Errorf("of %s to %d places: errors %d and %d", short(r), places, err, upErr)
			}
			if err != api.OK {
				continue
			}
			if rational.Compare(down, r) > 0 || rational.Compare(r, up) > 0 {
				t.Errorf("%s is not between %s and %s", short(r), short(down), short(up))
			}
			units := new(big.Rat).SetInt(scale(places))
			multiple := func(r api.Ratio) bool { return new(big.Rat).Mul(value(r), units).IsInt() }
			if !multiple(down) || !multiple(up) {
				t.Errorf("of %s to %d places: %s and %s", short(r), places, short(down), short(up))
			}
			difference := new(big.Rat).Mul(new(big.Rat).Sub(value(up), value(down)), units)
			if want := map[bool]*big.Rat{true: big.NewRat(0, 1), false: big.NewRat(1, 1)}[multiple(r)]; difference.Cmp(want) != 0 {
				t.Errorf("of %s to %d places: %s and %s", short(r), places, short(down), short(up))
			}
		}
	}
}

// P4.5: rounding again changes nothing.
func TestRoundAgain(t *testing.T) {
	checked := 0
	for _, r := range rounded() {
		for _, places := range somePlaces() {
			for _, round := range []func(api.Ratio, int) (api.Ratio, api.Errno){rational.Down, rational.Up} {
				once, err := round(r, places)
				if err != api.OK {
					continue
				}
				down, downErr := rational.Down(once, places)
				up, upErr := rational.Up(once, places)
				if downErr != api.OK || upErr != api.OK {
					continue
				}
				checked++
				if down != once || up != once {
					t.Errorf("%s, rounded to %d places again: %s and %s", short(once), places, short(down), short(up))
				}
			}
		}
	}
	if checked < 1000 {
		t.Errorf("only %d rounded again", checked)
	}
}

// P4.5: Up of r is minus Down of minus r.
func TestRoundMinus(t *testing.T) {
	for _, r := range rounded() {
		for _, places := range somePlaces() {
			up, upErr := rational.Up(r, places)
			down, downErr := rational.Down(minus(r), places)
			if upErr != downErr || upErr == api.OK && up != minus(down) {
				t.Errorf("Up of %s to %d places: %s; Down of minus it: %s", short(r), places, short(up), short(down))
			}
		}
	}
}
