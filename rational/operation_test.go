package rational_test

import (
	"math/big"
	"math/rand"
	"testing"

	"nadir/api"
	"nadir/rational"
)

// P4.1, P4.2: sums, differences, products and quotients are those of the numbers, as valid fractions, or they are too large as defined.
func TestOperations(t *testing.T) {
	all := pairs(rand.New(rand.NewSource(5)))
	for _, x := range operations() {
		t.Run(x.name, func(t *testing.T) {
			t.Parallel()
			made, refused := 0, 0
			for _, p := range all {
				want, wantErr := x.plainly(p[0], p[1])
				got, err := x.f(p[0], p[1])
				check(t, "of "+short(p[0])+" and "+short(p[1]), got, err, want, wantErr)
				if err == api.OK {
					made++
				} else {
					refused++
				}
			}
			if made < 1000 || refused < 1000 {
				t.Errorf("only %d results and %d refusals", made, refused)
			}
		})
	}
}

// P4.1: the same of all fractions of small integers.
func TestOperationsSmall(t *testing.T) {
	var small []api.Ratio
	for num := int64(-6); num <= 6; num++ {
		for den := int64(1); den <= 6; den++ {
			if r := fraction(big.NewRat(num, den)); plain(r.Den).Int64() == den {
				small = append(small, r)
			}
		}
	}
	for _, x := range operations() {
		for _, a := range small {
			for _, b := range small {
				want, wantErr := x.plainly(a, b)
				got, err := x.f(a, b)
				check(t, x.name+" of "+short(a)+" and "+short(b), got, err, want, wantErr)
			}
		}
	}
}

// P4.1: the examples of the chapter; an operation is too large if one of its integers is, also if the fraction would not be.
func TestOperationsKnown(t *testing.T) {
	three := new(big.Int).Exp(big.NewInt(3), big.NewInt(130), nil).String()
	two := new(big.Int).Exp(big.NewInt(2), big.NewInt(100), nil).String()
	nines := digits(200, "9")
	for _, x := range []struct {
		f          operation
		a, b, want string
	}{
		{rational.Add, "1/2", "1/3", "5/6"}, {rational.Sub, "1/2", "1/2", "0"}, {rational.Mul, "-2/3", "3/4", "-1/2"}, {rational.Div, "1/2", "-1/4", "-2"}, {rational.Div, "1", "0", ""},
		{rational.Mul, power(150, 0), power(150, 0), ""},
		{rational.Div, "0", "0", ""}, {rational.Div, "0", "-3", "0"}, {rational.Div, "0", nines, "0"}, {rational.Div, nines, "0", ""}, {rational.Div, nines, "-" + nines, "-1"}, {rational.Div, "-1/" + nines, "-1/" + nines, "1"},
		// The sum, each of its products, and the denominator have 200 digits or one more.
		{rational.Add, digits(199, "9") + "8", "1", nines}, {rational.Add, nines, "1", ""}, {rational.Add, nines, "-1", digits(199, "9") + "8"}, {rational.Add, "-" + nines, nines, "0"}, {rational.Sub, "-" + nines, "1", ""}, {rational.Sub, nines, nines, "0"}, {rational.Sub, nines, "-1", ""},
		{rational.Add, power(199, 0), "1/9", "9" + digits(198, "0") + "1/9"}, {rational.Add, power(198, 0), "1/11", "11" + digits(197, "0") + "1/11"}, {rational.Add, power(199, 0), "1/11", ""}, {rational.Add, "1/11", power(199, 0), ""},
		{rational.Sub, power(199, 0), "1/11", ""}, {rational.Sub, "1/11", power(199, 0), ""}, {rational.Sub, power(199, 0), "1/9", "8" + digits(199, "9") + "/9"},
		{rational.Add, "1/" + power(100, 0), "1/" + power(99, 0), "11/" + power(100, 0)}, {rational.Add, "1/" + power(100, 0), "1/" + power(100, 0), ""}, {rational.Sub, "1/" + power(100, 0), "1/" + power(100, 0), ""}, {rational.Sub, "1/" + power(99, 0), "1/" + power(99, 0), "0"},
		// So do the integers of a product.
		{rational.Mul, power(100, 0), power(99, 0), power(199, 0)}, {rational.Mul, power(100, 0), power(100, 0), ""}, {rational.Mul, "1/" + power(100, 0), "1/" + power(99, 0), "1/" + power(199, 0)}, {rational.Mul, "1/" + power(100, 0), "-1/" + power(100, 0), ""},
		{rational.Mul, power(150, 0), three + "/" + two, ""}, {rational.Mul, two + "/" + three, "1/" + power(150, 0), ""}, {rational.Mul, "0", "1/" + nines, "0"}, {rational.Mul, "0", nines, "0"},
		// And of a quotient.
		{rational.Div, power(100, 0), "1/" + power(99, 0), power(199, 0)}, {rational.Div, power(100, 0), "1/" + power(100, 0), ""}, {rational.Div, "1/" + power(100, 0), power(99, 0), "1/" + power(199, 0)}, {rational.Div, "1/" + power(100, 0), power(100, 0), ""}, {rational.Div, "1/" + power(100, 0), "-" + power(100, 0), ""},
		{rational.Div, power(150, 0), two + "/" + three, ""}, {rational.Div, "1/7", "1/" + power(150, 0), power(150, 0) + "/7"},
	} {
		want, wantErr := api.Ratio{}, api.ErrRational
		if x.want != "" {
			want, wantErr = read(x.want), api.OK
		}
		got, err := x.f(read(x.a), read(x.b))
		check(t, "of "+x.a+" and "+x.b, got, err, want, wantErr)
	}
}

// P4.1: integers of exactly 200 digits, and of 201, in each of the products.
func TestOperationsLastDigit(t *testing.T) {
	r := rand.New(rand.NewSource(6))
	limit := plain(digits(200, "9"))
	for range 30 {
		factor := new(big.Int).Add(new(big.Int).Rand(r, plain(power(1+r.Intn(198), 0))), big.NewInt(2))
		greatest := new(big.Int).Div(limit, factor)
		for more := int64(0); more <= 1; more++ {
			other := new(big.Int).Add(greatest, big.NewInt(more))
			one := big.NewInt(1)
			forms := func(n *big.Int) []api.Ratio {
				return []api.Ratio{fraction(new(big.Rat).SetFrac(n, one)), fraction(new(big.Rat).SetFrac(one, n)), fraction(new(big.Rat).SetFrac(new(big.Int).Neg(n), one)), fraction(new(big.Rat).SetFrac(one, new(big.Int).Neg(n)))}
			}
			for _, a := range forms(factor) {
				for _, b := range forms(other) {
					for _, x := range operations() {
						want, wantErr := x.plainly(a, b)
						got, err := x.f(a, b)
						check(t, x.name+" of "+short(a)+" and "+short(b), got, err, want, wantErr)
					}
				}
			}
		}
	}
}

// P4.1: fractions that are not valid, on either side.
func TestOperationsRefuse(t *testing.T) {
	for _, x := range operations() {
		for _, r := range invalid() {
			for _, other := range []api.Ratio{{Num: "0", Den: "1"}, {Num: "1", Den: "1"}, {Num: "-2", Den: "3"}, {Num: digits(200, "9"), Den: "1"}, r, {}} {
				got, err := x.f(r, other)
				checkRefused(t, x.name+" of "+short(r)+" and "+short(other), got, err)
				got, err = x.f(other, r)
				checkRefused(t, x.name+" of "+short(other)+" and "+short(r), got, err)
			}
		}
	}
}
