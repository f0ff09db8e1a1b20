package integer_test

import (
	"math/big"
	"math/rand"
	"testing"

	"nadir/api"
	"nadir/integer"
)

type example struct {
	name string
	f    operation
	a    string
	b    string
	want string
	err  api.Errno
}

func checkExamples(t *testing.T, all []example) {
	t.Helper()
	for _, x := range all {
		if got, err := x.f(x.a, x.b); got != x.want || err != x.err {
			t.Errorf("%s(%s, %s) = %q, error %d; want %q, error %d", x.name, x.a, x.b, got, err, x.want, x.err)
		}
	}
}

// P3.1: the examples of the chapter, carries through all groups, and results of exactly 200 and of 201 digits.
func TestSumsAndProductsKnown(t *testing.T) {
	most, tens := digits(200, "9"), power(100, 0)
	checkExamples(t, []example{
		{"Add", integer.Add, "999", "1", "1000", api.OK},
		{"Sub", integer.Sub, "1", "1000", "-999", api.OK},
		{"Mul", integer.Mul, "-12", "12", "-144", api.OK},
		{"Add", integer.Add, digits(199, "9"), "1", power(199, 0), api.OK},
		{"Sub", integer.Sub, power(199, 0), "1", digits(199, "9"), api.OK},
		{"Add", integer.Add, digits(199, "9") + "8", "1", most, api.OK},
		{"Add", integer.Add, most, "1", "", api.ErrInteger},
		{"Add", integer.Add, most, "0", most, api.OK},
		{"Add", integer.Add, most, most, "", api.ErrInteger},
		{"Add", integer.Add, "-" + most, "-1", "", api.ErrInteger},
		{"Add", integer.Add, "-" + most, most, "0", api.OK},
		{"Sub", integer.Sub, "-" + most, "1", "", api.ErrInteger},
		{"Sub", integer.Sub, most, "-1", "", api.ErrInteger},
		{"Sub", integer.Sub, "-" + most, "-1", "-" + digits(199, "9") + "8", api.OK},
		{"Sub", integer.Sub, "0", most, "-" + most, api.OK},
		{"Mul", integer.Mul, tens, power(99, 0), power(199, 0), api.OK},
		{"Mul", integer.Mul, tens, tens, "", api.ErrInteger},
		{"Mul", integer.Mul, "-" + tens, tens, "", api.ErrInteger},
		{"Mul", integer.Mul, most, "-1", "-" + most, api.OK},
		{"Mul", integer.Mul, most, "2", "", api.ErrInteger},
		{"Mul", integer.Mul, digits(200, "4"), "2", digits(200, "8"), api.OK},
		{"Mul", integer.Mul, most, most, "", api.ErrInteger},
		{"Mul", integer.Mul, digits(100, "9"), digits(100, "9"), digits(99, "9") + "8" + digits(99, "0") + "1", api.OK},
		{"Mul", integer.Mul, digits(101, "9"), digits(101, "9"), "", api.ErrInteger},
	})
}

// P3.1: sums.
func TestAdd(t *testing.T) {
	checkOperation(t, integer.Add, func(a, b *big.Int) *big.Int { return new(big.Int).Add(a, b) })
	checkRefused(t, integer.Add)
}

// P3.1: differences.
func TestSub(t *testing.T) {
	checkOperation(t, integer.Sub, func(a, b *big.Int) *big.Int { return new(big.Int).Sub(a, b) })
	checkRefused(t, integer.Sub)
}

// P3.1: products.
func TestMul(t *testing.T) {
	checkOperation(t, integer.Mul, func(a, b *big.Int) *big.Int { return new(big.Int).Mul(a, b) })
	checkRefused(t, integer.Mul)
}

// P3.1: sums, differences and products of exactly 200 and of 201 digits.
func TestLastDigit(t *testing.T) {
	r := rand.New(rand.NewSource(3))
	for range 500 {
		a := plain(power(199, 0))
		a.Add(a, new(big.Int).Rand(r, plain(power(199, 0))))
		for _, more := range []int64{-1, 0} {
			b := plain(power(200, more))
			b.Sub(b, a)
			for _, x := range [][2]string{{a.String(), b.String()}, {b.String(), a.String()}} {
				want, wantErr := plainInteger(plain(power(200, more)))
				if got, err := integer.Add(x[0], x[1]); got != want || err != wantErr {
					t.Fatalf("Add(%s, %s) = %q, error %d", x[0], x[1], got, err)
				}
				if got, err := integer.Sub(x[0], "-"+x[1]); got != want || err != wantErr {
					t.Fatalf("Sub(%s, -%s) = %q, error %d", x[0], x[1], got, err)
				}
			}
		}
		// The greatest factor that keeps the product within the digits, and the next one.
		factor := new(big.Int).Rand(r, plain(power(1+r.Intn(199), 0)))
		factor.Add(factor, big.NewInt(1))
		greatest := new(big.Int).Div(plain(digits(200, "9")), factor)
		if got, err := integer.Mul(factor.String(), greatest.String()); got != new(big.Int).Mul(factor, greatest).String() || err != api.OK {
			t.Fatalf("Mul(%s, %s) = %q, error %d", factor, greatest, got, err)
		}
		greatest.Add(greatest, big.NewInt(1))
		if got, err := integer.Mul(factor.String(), "-"+greatest.String()); got != "" || err != api.ErrInteger {
			t.Fatalf("Mul(%s, -%s) = %q, error %d", factor, greatest, got, err)
		}
	}
}

// P3.3: sums and products are commutative, also where they are refused.
func TestCommutative(t *testing.T) {
	for _, p := range pairs(rand.New(rand.NewSource(4))) {
		for i, f := range []operation{integer.Add, integer.Mul} {
			one, oneErr := f(p[0], p[1])
			other, otherErr := f(p[1], p[0])
			if one != other || oneErr != otherErr {
				t.Fatalf("operation %d of %s and %s: %q and %q", i, p[0], p[1], one, other)
			}
		}
	}
}

// P3.3: sums and products are associative, and products distribute over sums.
func TestAssociativeAndDistributive(t *testing.T) {
	r := rand.New(rand.NewSource(5))
	triples := [][3]string{}
	small := []string{"0", "1", "-1", "9999", "-9999", "10000", "-10000", "99999999", power(12, 0), "-" + power(60, -1)}
	for _, a := range small {
		for _, b := range small {
			for _, c := range small {
				triples = append(triples, [3]string{a, b, c})
			}
		}
	}
	for range 1000 {
		triples = append(triples, [3]string{randomInteger(r, 66), randomInteger(r, 66), randomInteger(r, 66)})
	}
	apply := func(f operation, a, b string) string {
		s, err := f(a, b)
		return must(t, s, err)
	}
	for _, x := range triples {
		for i, f := range []operation{integer.Add, integer.Mul} {
			if left, right := apply(f, apply(f, x[0], x[1]), x[2]), apply(f, x[0], apply(f, x[1], x[2])); left != right {
				t.Fatalf("operation %d of %v: %s and %s", i, x, left, right)
			}
		}
		product := apply(integer.Mul, x[0], apply(integer.Add, x[1], x[2]))
		sum := apply(integer.Add, apply(integer.Mul, x[0], x[1]), apply(integer.Mul, x[0], x[2]))
		if product != sum {
			t.Fatalf("distribution of %v: %s and %s", x, product, sum)
		}
	}
}

// P3.3: a difference is what is to be added.
func TestDifference(t *testing.T) {
	checked := 0
	for _, p := range pairs(rand.New(rand.NewSource(6))) {
		difference, err := integer.Sub(p[0], p[1])
		if err != api.OK {
			continue
		}
		checked++
		if sum, err := integer.Add(p[1], difference); sum != p[0] || err != api.OK {
			t.Fatalf("%s - %s = %s, but the sum is %q, error %d", p[0], p[1], difference, sum, err)
		}
	}
	if checked < 5000 {
		t.Errorf("only %d differences", checked)
	}
}
