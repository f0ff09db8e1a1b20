package rational_test

import (
	"math/rand"
	"testing"

	"nadir/api"
	"nadir/rational"
)

// P4.2: two valid fractions have the same value exactly if they are equal, and exactly if Print returns the same.
func TestSameValue(t *testing.T) {
	all := append(edges(), randomFractions(rand.New(rand.NewSource(10)), 6)...)
	texts := make([]string, len(all))
	for i, r := range all {
		texts[i] = rational.Print(r)
	}
	for i, a := range all {
		for j, b := range all {
			same := value(a).Cmp(value(b)) == 0
			if (a == b) != same || (texts[i] == texts[j]) != same {
				t.Errorf("%s and %s: printed as %s and %s", short(a), short(b), texts[i], texts[j])
			}
		}
	}
}

// P4.2: whatever way a number is calculated, it is the same valid fraction.
func TestOneResultEach(t *testing.T) {
	third, tenth := read("1/3"), read("-1/10")
	for _, want := range append(edges(), randomFractions(rand.New(rand.NewSource(11)), 4)...) {
		var results []api.Ratio
		keep := func(r api.Ratio, err api.Errno) {
			if err == api.OK {
				results = append(results, r)
			}
		}
		for _, by := range []api.Ratio{third, tenth, minus(want)} {
			if r, err := rational.Add(want, by); err == api.OK {
				keep(rational.Sub(r, by))
			}
			if r, err := rational.Mul(want, by); err == api.OK {
				keep(rational.Div(r, by))
			}
		}
		keep(rational.Make(want.Num, want.Den))
		keep(rational.Make(minus(want).Num, "-"+want.Den))
		keep(rational.Parse(rational.Print(want)))
		if want.Den == "1" {
			keep(rational.Down(want, 0))
			keep(rational.Up(want, 0))
		}
		if len(results) < 3 {
			t.Errorf("%s: only %d results", short(want), len(results))
		}
		for i, got := range results {
			if got != want || !rational.Valid(got) {
				t.Errorf("%s: result %d is %s", short(want), i, short(got))
			}
		}
	}
}

// P4.2: a 0 is 0/1, whatever it comes from.
func TestZero(t *testing.T) {
	zero := api.Ratio{Num: "0", Den: "1"}
	for _, a := range edges() {
		made, madeErr := rational.Make("0", a.Den)
		difference, differenceErr := rational.Sub(a, a)
		product, productErr := rational.Mul(a, zero)
		for i, x := range []struct {
			r   api.Ratio
			err api.Errno
		}{{made, madeErr}, {difference, differenceErr}, {product, productErr}} {
			if x.err == api.OK && x.r != zero {
				t.Errorf("the zero %d of %s is %s", i, short(a), short(x.r))
			}
		}
	}
}
