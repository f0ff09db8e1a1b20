package integer_test

import (
	"math/big"
	"math/rand"
	"testing"

	"nadir/api"
	"nadir/integer"
)

// P3.1: the examples of the chapter, and both ends.
func TestGcdKnown(t *testing.T) {
	most := digits(200, "9")
	checkExamples(t, []example{
		{"Gcd", integer.Gcd, "12", "-18", "6", api.OK},
		{"Gcd", integer.Gcd, "-12", "-18", "6", api.OK},
		{"Gcd", integer.Gcd, "0", "0", "0", api.OK},
		{"Gcd", integer.Gcd, "0", "-5", "5", api.OK},
		{"Gcd", integer.Gcd, "-5", "0", "5", api.OK},
		{"Gcd", integer.Gcd, "-1", "0", "1", api.OK},
		{"Gcd", integer.Gcd, "1", "-" + most, "1", api.OK},
		{"Gcd", integer.Gcd, most, "-" + most, most, api.OK},
		{"Gcd", integer.Gcd, "-" + most, "0", most, api.OK},
		{"Gcd", integer.Gcd, most, digits(100, "9"), digits(100, "9"), api.OK},
		{"Gcd", integer.Gcd, power(199, 0), "-" + digits(200, "2"), "2", api.OK},
	})
}

// P3.1, P3.5: greatest common divisors.
func TestGcd(t *testing.T) {
	checkOperation(t, integer.Gcd, func(a, b *big.Int) *big.Int { return new(big.Int).GCD(nil, nil, a, b) })
	checkRefused(t, integer.Gcd)
}

// P3.1, P3.5: numbers of Fibonacci, for which Euclid's algorithm has the most steps.
func TestGcdOfNeighbours(t *testing.T) {
	a, b := big.NewInt(0), big.NewInt(1)
	for n := 0; len(b.String()) <= 200; n++ {
		if got, err := integer.Gcd(b.String(), a.String()); got != "1" || err != api.OK {
			t.Fatalf("Gcd of the numbers %d: %q, error %d", n, got, err)
		}
		a, b = b, new(big.Int).Add(a, b)
	}
}

// P3.5: Gcd divides both, and each common divisor that was put in divides it.
func TestGcdDivides(t *testing.T) {
	r := rand.New(rand.NewSource(10))
	divides := func(d, n string) bool {
		if d == "0" {
			return n == "0"
		}
		_, rest, err := integer.Div(n, d)
		return rest == "0" && err == api.OK
	}
	for i := range 1500 {
		most := 1 + i%100
		common := randomInteger(r, most)
		a, errA := integer.Mul(common, randomInteger(r, 100))
		b, errB := integer.Mul(common, randomInteger(r, 100))
		gcd, err := integer.Gcd(must(t, a, errA), must(t, b, errB))
		must(t, gcd, err)
		if integer.Compare(gcd, "0") < 0 || !divides(gcd, a) || !divides(gcd, b) || !divides(common, gcd) {
			t.Fatalf("Gcd(%s, %s) = %s, with the common divisor %s", a, b, gcd, common)
		}
	}
}

// P3.5: for small numbers, each common divisor divides Gcd, and nothing else is one.
func TestGcdOfSmall(t *testing.T) {
	for a := -40; a <= 40; a++ {
		for b := -40; b <= 40; b++ {
			got, err := integer.Gcd(integer.FromInt(a), integer.FromInt(b))
			gcd, intErr := integer.ToInt(got)
			if err != api.OK || intErr != api.OK || gcd < 0 || (gcd == 0) != (a == 0 && b == 0) {
				t.Fatalf("Gcd(%d, %d) = %q, error %d", a, b, got, err)
			}
			for d := 1; d <= 40; d++ {
				if (a%d == 0 && b%d == 0) != (gcd%d == 0) {
					t.Fatalf("Gcd(%d, %d) = %d, and %d", a, b, gcd, d)
				}
			}
		}
	}
}

// radicands are squares, their neighbours, and other numbers that are not negative.
func radicands(r *rand.Rand) []string {
	all := []string{}
	keep := func(n *big.Int) {
		if s := n.String(); n.Sign() >= 0 && len(s) <= 200 {
			all = append(all, s)
		}
	}
	for n := range 2000 {
		keep(big.NewInt(int64(n)))
	}
	for _, s := range edges() {
		keep(plain(s))
		square := new(big.Int).Mul(plain(s), plain(s))
		for more := int64(-1); more <= 1; more++ {
			keep(new(big.Int).Add(square, big.NewInt(more)))
		}
	}
	for range 500 {
		root := plain(randomInteger(r, 100))
		square := new(big.Int).Mul(root, root)
		keep(square)
		keep(new(big.Int).Sub(square, big.NewInt(1)))
		keep(plain(randomInteger(r, 200)))
	}
	return all
}

// P3.1: roots.
func TestRoot(t *testing.T) {
	for _, s := range append(radicands(rand.New(rand.NewSource(11))), "99") {
		if got, err := integer.Root(s); got != new(big.Int).Sqrt(plain(s)).String() || err != api.OK {
			t.Fatalf("Root(%s) = %q, error %d", s, got, err)
		}
	}
}

// P3.6: the square of Root is at most its argument, and the next square is greater.
func TestRootSquares(t *testing.T) {
	for _, s := range radicands(rand.New(rand.NewSource(12))) {
		root, err := integer.Root(s)
		square, squareErr := integer.Mul(must(t, root, err), root)
		if integer.Compare(root, "0") < 0 || integer.Compare(must(t, square, squareErr), s) > 0 {
			t.Fatalf("Root(%s) = %s, whose square is %s", s, root, square)
		}
		next, nextErr := integer.Add(root, "1")
		square, squareErr = integer.Mul(must(t, next, nextErr), next)
		if squareErr == api.OK && integer.Compare(square, s) <= 0 {
			t.Fatalf("Root(%s) = %s, but the next square is %s", s, root, square)
		}
	}
}

// P3.1: the root of the greatest integer: the next square has too many digits.
func TestGreatestRoot(t *testing.T) {
	if root, err := integer.Root(digits(200, "9")); root != digits(100, "9") || err != api.OK {
		t.Errorf("the root of 200 nines is %q, error %d", root, err)
	}
	if root, err := integer.Root(power(199, 0)); root != new(big.Int).Sqrt(plain(power(199, 0))).String() || err != api.OK {
		t.Errorf("the root of the least integer of 200 digits is %q, error %d", root, err)
	}
}

// P3.1: negative numbers have no root, and neither have strings that are no integers.
func TestRootErrors(t *testing.T) {
	for _, s := range append(invalid(), "-1", "-2", "-4", "-9999", "-10000", "-9223372036854775808", "-"+digits(200, "9")) {
		if root, err := integer.Root(s); root != "" || err != api.ErrInteger {
			t.Errorf("Root(%.20q) = %.20q, error %d; want ErrInteger", s, root, err)
		}
	}
}
