package integer_test

import (
	"math"
	"math/rand"
	"testing"

	"nadir/api"
	"nadir/integer"
)

// P3.1, P3.7: Compare is the order of the numbers.
func TestCompare(t *testing.T) {
	for _, p := range pairs(rand.New(rand.NewSource(13))) {
		if got, want := integer.Compare(p[0], p[1]), plain(p[0]).Cmp(plain(p[1])); got != want {
			t.Fatalf("Compare(%s, %s) = %d, want %d", p[0], p[1], got, want)
		}
	}
}

// P3.1, P3.7: so it is of ints.
func TestCompareInts(t *testing.T) {
	ints := []int{math.MinInt, math.MinInt + 1, -10001, -10000, -9999, -10, -9, -2, -1, 0, 1, 2, 9, 10, 9999, 10000, 10001, math.MaxInt - 1, math.MaxInt}
	for i, a := range ints {
		for j, b := range ints {
			want := 0
			if i < j {
				want = -1
			} else if i > j {
				want = 1
			}
			if got := integer.Compare(integer.FromInt(a), integer.FromInt(b)); got != want {
				t.Errorf("Compare(%d, %d) = %d, want %d", a, b, got, want)
			}
		}
	}
}

// P3.1: what is not valid is neither less nor greater.
func TestCompareInvalid(t *testing.T) {
	for _, s := range invalid() {
		for _, other := range append(invalid(), "0", "1", "-1", digits(200, "9"), "-"+digits(200, "9")) {
			if integer.Compare(s, other) != 0 || integer.Compare(other, s) != 0 {
				t.Errorf("Compare of %.20q and %.20q is not 0", s, other)
			}
		}
	}
}

// P3.7: Compare agrees with the sign of the difference.
func TestCompareDifference(t *testing.T) {
	for _, p := range pairs(rand.New(rand.NewSource(14))) {
		difference, err := integer.Sub(p[0], p[1])
		if err != api.OK {
			continue
		}
		sign := 1
		if difference == "0" {
			sign = 0
		} else if difference[0] == '-' {
			sign = -1
		}
		if got := integer.Compare(p[0], p[1]); got != sign {
			t.Fatalf("Compare(%s, %s) = %d, but the difference is %s", p[0], p[1], got, difference)
		}
	}
}

// P3.7: Compare is kept by adding the same.
func TestCompareSums(t *testing.T) {
	r := rand.New(rand.NewSource(15))
	same := append(edges(), randomInteger(r, 100), randomInteger(r, 198))
	for _, p := range pairs(r)[:3000] {
		more := same[r.Intn(len(same))]
		a, errA := integer.Add(p[0], more)
		b, errB := integer.Add(p[1], more)
		if errA != api.OK || errB != api.OK {
			continue
		}
		if got, want := integer.Compare(a, b), integer.Compare(p[0], p[1]); got != want {
			t.Fatalf("Compare(%s, %s) = %d, but with %s added %d", p[0], p[1], want, more, got)
		}
	}
}

// P3.7: Compare is an order: the same the other way round, and passed on.
func TestCompareOrder(t *testing.T) {
	all := edges()
	for _, a := range all {
		for _, b := range all {
			ab := integer.Compare(a, b)
			if ab != -integer.Compare(b, a) || (ab == 0) != (a == b) {
				t.Fatalf("Compare(%s, %s) = %d", a, b, ab)
			}
			for _, c := range all {
				if ab <= 0 && integer.Compare(b, c) <= 0 && integer.Compare(a, c) > 0 {
					t.Fatalf("%s, %s and %s", a, b, c)
				}
			}
		}
	}
}
