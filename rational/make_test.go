package rational_test

import (
	"math"
	"math/big"
	"math/rand"
	"strconv"
	"testing"

	"nadir/api"
	"nadir/rational"
)

// P4.1: fractions in lowest terms are valid.
func TestValid(t *testing.T) {
	for _, r := range append(edges(), randomFractions(rand.New(rand.NewSource(1)), 20)...) {
		if !rational.Valid(r) {
			t.Errorf("%s is not valid", short(r))
		}
	}
	for _, r := range invalid() {
		if rational.Valid(r) {
			t.Errorf("%s is valid", short(r))
		}
	}
}

// P4.1: of all fractions of small integers, exactly those in lowest terms with a positive denominator are valid.
func TestValidSmall(t *testing.T) {
	for num := int64(-24); num <= 24; num++ {
		for den := int64(-24); den <= 24; den++ {
			r := api.Ratio{Num: strconv.FormatInt(num, 10), Den: strconv.FormatInt(den, 10)}
			want := den > 0 && new(big.Int).GCD(nil, nil, big.NewInt(max(num, -num)), big.NewInt(den)).Int64() == 1
			if rational.Valid(r) != want {
				t.Errorf("%s: %t", short(r), !want)
			}
		}
	}
}

// P4.1: the examples of the chapter, and the least and the greatest int.
func TestOfKnown(t *testing.T) {
	for _, x := range []struct {
		num, den int
		want     string
	}{
		{6, -4, "-3/2"}, {-6, -4, "3/2"}, {-6, 4, "-3/2"}, {6, 4, "3/2"}, {0, -5, "0"}, {0, 5, "0"}, {0, 1, "0"}, {0, -1, "0"}, {7, 1, "7"}, {7, -1, "-7"}, {5, 5, "1"}, {5, -5, "-1"},
		{math.MinInt, math.MinInt, "1"}, {math.MaxInt, math.MaxInt, "1"}, {math.MinInt, 1, "-9223372036854775808"}, {math.MinInt, -1, "9223372036854775808"},
		{1, math.MinInt, "-1/9223372036854775808"}, {-1, math.MinInt, "1/9223372036854775808"}, {math.MaxInt, 1, "9223372036854775807"}, {1, math.MaxInt, "1/9223372036854775807"},
		{math.MinInt, math.MaxInt, "-9223372036854775808/9223372036854775807"}, {math.MaxInt, math.MinInt, "-9223372036854775807/9223372036854775808"}, {math.MinInt, 2, "-4611686018427387904"}, {2, math.MinInt, "-1/4611686018427387904"}, {0, math.MinInt, "0"},
	} {
		got, err := rational.Of(x.num, x.den)
		check(t, "Of("+strconv.Itoa(x.num)+", "+strconv.Itoa(x.den)+")", got, err, read(x.want), api.OK)
	}
	for _, num := range []int{0, 1, -1, 7, math.MinInt, math.MaxInt} {
		got, err := rational.Of(num, 0)
		checkRefused(t, "Of("+strconv.Itoa(num)+", 0)", got, err)
	}
}

// P4.1: Of of all small ints, and of random ones.
func TestOf(t *testing.T) {
	checkOf := func(num, den int) {
		want, wantErr := reduced(big.NewInt(int64(num)), big.NewInt(int64(den)))
		got, err := rational.Of(num, den)
		check(t, "Of("+strconv.Itoa(num)+", "+strconv.Itoa(den)+")", got, err, want, wantErr)
	}
	for num := -20; num <= 20; num++ {
		for den := -20; den <= 20; den++ {
			checkOf(num, den)
		}
	}
	r := rand.New(rand.NewSource(2))
	for range 500 {
		checkOf(int(r.Uint64())>>r.Intn(63), int(r.Uint64())>>r.Intn(63))
	}
}

// P4.1: Make reduces integers of whatever size, also those that have 200 digits.
func TestMake(t *testing.T) {
	integers := []string{"0", "1", "-1", "2", "-6", "9", "10", "9999", "-10000", "9223372036854775808", power(99, 0), "-" + power(100, 0), digits(100, "9"), power(199, 0), digits(200, "9"), "-" + digits(200, "9"), digits(200, "6"), "-" + digits(200, "2"), digits(199, "9") + "8"}
	r := rand.New(rand.NewSource(3))
	for _, most := range []int{10, 100, 200, 200} {
		integers = append(integers, randomInteger(r, most).String())
	}
	for _, num := range integers {
		for _, den := range integers {
			want, wantErr := reduced(plain(num), plain(den))
			got, err := rational.Make(num, den)
			check(t, "Make("+num+", "+den+")", got, err, want, wantErr)
		}
	}
}

// P4.1: Make undoes what both integers have in common.
func TestMakeCommon(t *testing.T) {
	r := rand.New(rand.NewSource(4))
	for range 300 {
		want, shared := random(r, 100), randomInteger(r, 100)
		num, den := new(big.Int).Mul(plain(want.Num), shared), new(big.Int).Mul(plain(want.Den), shared)
		got, err := rational.Make(num.String(), den.String())
		if shared.Sign() == 0 {
			checkRefused(t, "Make(0, 0)", got, err)
		} else {
			check(t, "Make("+num.String()+", "+den.String()+")", got, err, want, api.OK)
		}
	}
}

// P4.1: a denominator of 0, and strings that are no integers.
func TestMakeRefuses(t *testing.T) {
	for _, s := range notIntegers() {
		for _, other := range append(notIntegers(), "0", "1", "-1", "6", digits(200, "9")) {
			got, err := rational.Make(s, other)
			checkRefused(t, "Make of "+short(api.Ratio{Num: s, Den: other}), got, err)
			got, err = rational.Make(other, s)
			checkRefused(t, "Make of "+short(api.Ratio{Num: other, Den: s}), got, err)
		}
	}
	for _, num := range []string{"0", "1", "-1", "9223372036854775808", digits(200, "9"), "-" + digits(200, "9")} {
		got, err := rational.Make(num, "0")
		checkRefused(t, "Make("+num+", 0)", got, err)
	}
}
