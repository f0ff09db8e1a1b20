package rational_test

import (
	"math/rand"
	"testing"

	"nadir/api"
	"nadir/rational"
)

// fieldNumbers are fractions of which sums and products of three are never too large.
func fieldNumbers() []api.Ratio {
	all := []api.Ratio{read("0"), read("1"), read("-1"), read("2"), read("1/2"), read("-1/3"), read("3/2"), read("-7/10"), read("9999/10000"), read("-" + power(20, 0)), read("1/" + power(30, 1))}
	r := rand.New(rand.NewSource(7))
	for range 6 {
		all = append(all, random(r, 30))
	}
	return all
}

// apply returns the result of an operation that is expected to have one.
func apply(t *testing.T, f operation, a, b api.Ratio) api.Ratio {
	t.Helper()
	r, err := f(a, b)
	if err != api.OK {
		t.Fatalf("of %s and %s: error %d", short(a), short(b), err)
	}
	return r
}

// P4.3: addition and multiplication are commutative, also where they are refused.
func TestCommutative(t *testing.T) {
	t.Parallel()
	for _, p := range somePairs(rand.New(rand.NewSource(8)), 2500) {
		for i, f := range []operation{rational.Add, rational.Mul} {
			one, oneErr := f(p[0], p[1])
			other, otherErr := f(p[1], p[0])
			if one != other || oneErr != otherErr {
				t.Fatalf("operation %d of %s and %s: %s and %s", i, short(p[0]), short(p[1]), short(one), short(other))
			}
		}
	}
}

// P4.3: addition and multiplication are associative, and multiplication is distributive over addition.
func TestAssociativeAndDistributive(t *testing.T) {
	t.Parallel()
	all := fieldNumbers()
	for _, a := range all {
		for _, b := range all {
			for _, c := range all {
				for i, f := range []operation{rational.Add, rational.Mul} {
					if left, right := apply(t, f, apply(t, f, a, b), c), apply(t, f, a, apply(t, f, b, c)); left != right {
						t.Fatalf("operation %d of %s, %s and %s: %s and %s", i, short(a), short(b), short(c), short(left), short(right))
					}
				}
				product := apply(t, rational.Mul, a, apply(t, rational.Add, b, c))
				sum := apply(t, rational.Add, apply(t, rational.Mul, a, b), apply(t, rational.Mul, a, c))
				if product != sum {
					t.Fatalf("distribution of %s over %s and %s: %s and %s", short(a), short(b), short(c), short(product), short(sum))
				}
			}
		}
	}
}

// P4.3: subtracting undoes adding, and dividing undoes multiplying, as long as nothing is too large.
func TestUndo(t *testing.T) {
	t.Parallel()
	ways := []struct {
		name     string
		do, undo operation
	}{{"Sub after Add", rational.Add, rational.Sub}, {"Add after Sub", rational.Sub, rational.Add}, {"Div after Mul", rational.Mul, rational.Div}, {"Mul after Div", rational.Div, rational.Mul}}
	checked := 0
	for _, p := range somePairs(rand.New(rand.NewSource(9)), 2500) {
		for i, way := range ways {
			if p[1].Num == "0" && i >= 2 {
				continue
			}
			done, err := way.do(p[0], p[1])
			if err != api.OK {
				continue
			}
			back, err := way.undo(done, p[1])
			if err != api.OK {
				continue
			}
			checked++
			if back != p[0] {
				t.Errorf("%s, of %s and %s: %s", way.name, short(p[0]), short(p[1]), short(back))
			}
		}
	}
	if checked < 2000 {
		t.Errorf("only %d undone", checked)
	}
}

// P4.3: adding 0 and multiplying by 1 change nothing, and each fraction has a negative and, unless it is 0, an inverse.
func TestNeutral(t *testing.T) {
	zero, one := read("0"), read("1")
	for _, a := range append(edges(), fieldNumbers()...) {
		for name, got := range map[string]api.Ratio{"plus 0": apply(t, rational.Add, a, zero), "minus 0": apply(t, rational.Sub, a, zero), "times 1": apply(t, rational.Mul, a, one), "by 1": apply(t, rational.Div, a, one)} {
			if got != a {
				t.Errorf("%s %s: %s", short(a), name, short(got))
			}
		}
		if got := apply(t, rational.Sub, zero, a); got != minus(a) {
			t.Errorf("0 minus %s: %s", short(a), short(got))
		}
		if a == zero {
			continue
		}
		inverse := apply(t, rational.Div, one, a)
		if got, err := rational.Mul(a, inverse); err == api.OK && got != one {
			t.Errorf("%s times its inverse: %s", short(a), short(got))
		}
		if got := apply(t, rational.Div, one, inverse); got != a {
			t.Errorf("the inverse of the inverse of %s: %s", short(a), short(got))
		}
	}
}
