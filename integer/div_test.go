package integer_test

import (
	"math/big"
	"math/rand"
	"testing"

	"nadir/api"
	"nadir/integer"
)

// P3.1: the examples of the chapter, and both ends.
func TestDivKnown(t *testing.T) {
	most := digits(200, "9")
	for _, x := range []struct{ a, b, q, r string }{
		{"7", "2", "3", "1"}, {"-7", "2", "-4", "1"}, {"7", "-2", "-3", "1"}, {"-7", "-2", "4", "1"},
		{"6", "2", "3", "0"}, {"-6", "2", "-3", "0"}, {"6", "-2", "-3", "0"}, {"-6", "-2", "3", "0"},
		{"1", "2", "0", "1"}, {"-1", "2", "-1", "1"}, {"1", "-2", "0", "1"}, {"-1", "-2", "1", "1"},
		{"0", "7", "0", "0"}, {"0", "-7", "0", "0"},
		{most, "1", most, "0"}, {most, "-1", "-" + most, "0"}, {"-" + most, "-1", most, "0"}, {most, most, "1", "0"},
		{"1", most, "0", "1"}, {"-1", most, "-1", digits(199, "9") + "8"}, {"-1", "-" + most, "1", digits(199, "9") + "8"},
		{"-9223372036854775808", "-1", "9223372036854775808", "0"},
		{power(199, 0), power(100, 0), power(99, 0), "0"}, {power(199, -1), power(100, 0), power(99, -1), digits(100, "9")},
		{"99999999", "10000", "9999", "9999"}, {"99990000", "9999", "10000", "0"}, {"99999998", "9999", "10000", "9998"},
	} {
		if q, r, err := integer.Div(x.a, x.b); q != x.q || r != x.r || err != api.OK {
			t.Errorf("Div(%s, %s) = %q, %q, error %d; want %s, %s", x.a, x.b, q, r, err, x.q, x.r)
		}
	}
}

// P3.1, P3.4: quotients and remainders are those of the numbers.
func TestDiv(t *testing.T) {
	for _, p := range pairs(rand.New(rand.NewSource(7))) {
		if p[1] == "0" {
			continue
		}
		want, rest := new(big.Int).DivMod(plain(p[0]), plain(p[1]), new(big.Int))
		if q, r, err := integer.Div(p[0], p[1]); q != want.String() || r != rest.String() || err != api.OK {
			t.Fatalf("Div(%s, %s) = %q, %q, error %d; want %s, %s", p[0], p[1], q, r, err, want, rest)
		}
	}
}

// P3.4: dividends next to multiples of a divisor, whose quotients have groups of zeros and of nines.
func TestDivNearMultiples(t *testing.T) {
	r := rand.New(rand.NewSource(8))
	for range 2000 {
		b := plain(randomInteger(r, 100))
		if b.Sign() == 0 {
			continue
		}
		for more := int64(-1); more <= 1; more++ {
			a := new(big.Int).Mul(b, plain(randomInteger(r, 100)))
			a.Add(a, big.NewInt(more))
			want, rest := new(big.Int).DivMod(a, b, new(big.Int))
			if q, r, err := integer.Div(a.String(), b.String()); q != want.String() || r != rest.String() || err != api.OK {
				t.Fatalf("Div(%s, %s) = %q, %q, error %d; want %s, %s", a, b, q, r, err, want, rest)
			}
		}
	}
}

// P3.1: a divisor of 0, and strings that are no integers.
func TestDivErrors(t *testing.T) {
	for _, a := range append(edges(), invalid()...) {
		if q, r, err := integer.Div(a, "0"); q != "" || r != "" || err != api.ErrInteger {
			t.Errorf("Div(%.20q, 0) = %q, %q, error %d; want ErrInteger", a, q, r, err)
		}
	}
	quotient := func(a, b string) (string, api.Errno) {
		q, r, err := integer.Div(a, b)
		return q + r, err
	}
	checkRefused(t, quotient)
}

// P3.4: the quotient times the divisor plus the remainder is the dividend, and the remainder is in its bounds.
func TestDivDivides(t *testing.T) {
	for _, p := range pairs(rand.New(rand.NewSource(9))) {
		a, b := p[0], p[1]
		if b == "0" {
			continue
		}
		q, r, err := integer.Div(a, b)
		if err != api.OK || !integer.Valid(q) || !integer.Valid(r) {
			t.Fatalf("Div(%s, %s) = %q, %q, error %d", a, b, q, r, err)
		}
		size := new(big.Int).Abs(plain(b))
		if integer.Compare(r, "0") < 0 || integer.Compare(r, size.String()) >= 0 {
			t.Fatalf("Div(%s, %s) leaves %s", a, b, r)
		}
		// The product is less than the dividend by the remainder: below 0, it may have a digit more.
		if product, err := integer.Mul(q, b); err == api.OK {
			if sum, err := integer.Add(product, r); sum != a || err != api.OK {
				t.Fatalf("Div(%s, %s) = %s, %s, but the sum is %q, error %d", a, b, q, r, sum, err)
			}
		} else if len(a) < 200 {
			t.Fatalf("Div(%s, %s) = %s, but the product has too many digits", a, b, q)
		}
	}
}
