package rational_test

import (
	"math/big"
	"math/rand"
	"testing"

	"nadir/api"
	"nadir/rational"
)

// checkCompare checks Compare both ways.
func checkCompare(t *testing.T, a, b api.Ratio) {
	t.Helper()
	want := value(a).Cmp(value(b))
	if got := rational.Compare(a, b); got != want {
		t.Errorf("Compare(%s, %s) = %d, want %d", short(a), short(b), got, want)
	}
	if got := rational.Compare(b, a); got != -want {
		t.Errorf("Compare(%s, %s) = %d, want %d", short(b), short(a), got, -want)
	}
}

// P4.1, P4.4: Compare is the order of the values, of whatever size.
func TestCompare(t *testing.T) {
	for _, x := range []struct {
		a, b string
		want int
	}{{"1/3", "33333/100000", 1}, {"-1/2", "-1/3", -1}, {"0", "0", 0}, {"0", "1", -1}, {"0", "-1", 1}, {"1/2", "1/2", 0}, {"2", "3/2", 1}, {"7/5", "10/7", -1}} {
		if got := rational.Compare(read(x.a), read(x.b)); got != x.want {
			t.Errorf("Compare(%s, %s) = %d, want %d", x.a, x.b, got, x.want)
		}
	}
	for _, p := range pairs(rand.New(rand.NewSource(12))) {
		checkCompare(t, p[0], p[1])
	}
}

// P4.1, P4.4: Compare of fractions that are as near to each other as fractions can be: the parts that continue them are the same up to one of the last ones.
func TestCompareNear(t *testing.T) {
	t.Parallel()
	r := rand.New(rand.NewSource(13))
	for range 40 {
		// The rows are fractions that come nearer and nearer, from both sides, to a number.
		above, below := [2]*big.Int{big.NewInt(1), big.NewInt(0)}, [2]*big.Int{big.NewInt(int64(r.Intn(9) - 4)), big.NewInt(1)}
		most := int64(1 + r.Intn(3)*r.Intn(1000))
		var all []api.Ratio
		for {
			all = append(all, fraction(new(big.Rat).SetFrac(below[0], below[1])))
			part := big.NewInt(1 + r.Int63n(most))
			num := new(big.Int).Add(new(big.Int).Mul(part, below[0]), above[0])
			den := new(big.Int).Add(new(big.Int).Mul(part, below[1]), above[1])
			if fits(num) == nil || fits(den) == nil {
				break
			}
			above, below = below, [2]*big.Int{num, den}
		}
		last := len(all) - 1
		for _, i := range []int{last, last - 1, last - 2, r.Intn(last), r.Intn(last)} {
			checkCompare(t, all[last], all[max(0, i)])
			checkCompare(t, minus(all[last]), minus(all[max(0, i)]))
		}
	}
}

// P4.1: what is not valid is neither less nor greater.
func TestCompareInvalid(t *testing.T) {
	for _, r := range invalid() {
		for _, other := range append(invalid(), edges()[:9]...) {
			if rational.Compare(r, other) != 0 || rational.Compare(other, r) != 0 {
				t.Errorf("Compare of %s and %s is not 0", short(r), short(other))
			}
		}
	}
}

// P4.4: Compare is a total order: 0 for equal fractions alone, the same the other way round, and passed on.
func TestCompareOrder(t *testing.T) {
	all := append(edges(), fieldNumbers()...)
	order := make([][]int, len(all))
	for i, a := range all {
		for _, b := range all {
			order[i] = append(order[i], rational.Compare(a, b))
		}
	}
	for i, a := range all {
		for j, b := range all {
			if order[i][j] != -order[j][i] || (order[i][j] == 0) != (a == b) {
				t.Errorf("Compare(%s, %s) = %d", short(a), short(b), order[i][j])
			}
			for k, c := range all {
				if order[i][j] <= 0 && order[j][k] <= 0 && order[i][k] > 0 {
					t.Errorf("%s, %s and %s", short(a), short(b), short(c))
				}
			}
		}
	}
}

// P4.4: Compare is the sign of the difference.
func TestCompareDifference(t *testing.T) {
	t.Parallel()
	for _, p := range somePairs(rand.New(rand.NewSource(14)), 3000) {
		difference, err := rational.Sub(p[0], p[1])
		if err != api.OK {
			continue
		}
		if got, want := rational.Compare(p[0], p[1]), rational.Compare(difference, read("0")); got != want || got != value(difference).Sign() {
			t.Errorf("Compare(%s, %s) = %d, but the difference is %s", short(p[0]), short(p[1]), got, short(difference))
		}
	}
}

// P4.4: adding the same fraction, and multiplying by the same positive one, does not change the order; by the same negative one, it turns around.
func TestCompareKept(t *testing.T) {
	t.Parallel()
	r := rand.New(rand.NewSource(15))
	by := append(edges()[1:], random(r, 5), random(r, 40), random(r, 80))
	for _, p := range somePairs(r, 2000) {
		want, c := rational.Compare(p[0], p[1]), by[r.Intn(len(by))]
		for _, x := range []struct {
			f    operation
			want int
		}{{rational.Add, want}, {rational.Sub, want}, {rational.Mul, want * value(c).Sign()}} {
			a, errA := x.f(p[0], c)
			b, errB := x.f(p[1], c)
			if errA == api.OK && errB == api.OK && rational.Compare(a, b) != x.want {
				t.Errorf("of %s and %s, with %s, Compare is not %d", short(p[0]), short(p[1]), short(c), x.want)
			}
		}
	}
}
