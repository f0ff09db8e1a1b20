package integer_test

import (
	"math"
	"math/big"
	"math/rand"
	"strconv"
	"strings"
	"testing"

	"nadir/api"
	"nadir/integer"
)

// The expectations of the tests are computed with the big integers of Go's library, which share no code with the package.

type operation func(a, b string) (string, api.Errno)

// plain returns the number s.
func plain(s string) *big.Int {
	n, ok := new(big.Int).SetString(s, 10)
	if !ok {
		panic(s)
	}
	return n
}

// plainInteger returns the integer n; an empty string and ErrInteger if it has too many digits.
func plainInteger(n *big.Int) (string, api.Errno) {
	if len(new(big.Int).Abs(n).String()) > 200 {
		return "", api.ErrInteger
	}
	return n.String(), api.OK
}

// power returns 10 to the power of n, plus more.
func power(n int, more int64) string {
	p := new(big.Int).Exp(big.NewInt(10), big.NewInt(int64(n)), nil)
	return p.Add(p, big.NewInt(more)).String()
}

// digits returns n times the digit.
func digits(n int, digit string) string {
	return strings.Repeat(digit, n)
}

// randomInteger returns an integer of at most so many digits, often with many zeros or nines in it.
func randomInteger(r *rand.Rand, most int) string {
	b := make([]byte, 1+r.Intn(most))
	kind := r.Intn(4)
	for i := range b {
		switch {
		case kind == 1 && r.Intn(4) > 0:
			b[i] = '0'
		case kind == 2 && r.Intn(4) > 0:
			b[i] = '9'
		default:
			b[i] = byte('0' + r.Intn(10))
		}
	}
	n := plain(string(b))
	if r.Intn(2) == 0 {
		n.Neg(n)
	}
	return n.String()
}

// edges are integers around which the groups, the ints or the digits end, of both signs.
func edges() []string {
	all := []string{"0"}
	sizes := []string{"1", "2", "3", "7", "9", "12", "18", "4999", "5000", "5001", "12345678"}
	for _, n := range []int{1, 2, 3, 4, 5, 8, 12, 16, 99, 100, 101, 196, 199} {
		sizes = append(sizes, power(n, -1), power(n, 0), power(n, 1))
	}
	sizes = append(sizes, "9223372036854775807", "9223372036854775808", "9223372036854775809", digits(200, "9"), digits(199, "9")+"8", digits(50, "0001")[3:], digits(50, "5000"))
	for _, s := range sizes {
		all = append(all, s, "-"+s)
	}
	return all
}

// pairs are all pairs of edges, and random ones.
func pairs(r *rand.Rand) [][2]string {
	var all [][2]string
	for _, a := range edges() {
		for _, b := range edges() {
			all = append(all, [2]string{a, b})
		}
	}
	for _, most := range []int{3, 9, 20, 50, 100, 150, 200} {
		for range 200 {
			all = append(all, [2]string{randomInteger(r, most), randomInteger(r, 200)}, [2]string{randomInteger(r, 200), randomInteger(r, most)}, [2]string{randomInteger(r, most), randomInteger(r, most)})
		}
	}
	return all
}

// invalid are strings that are no valid integers.
func invalid() []string {
	return []string{
		"", "-", "--", "--1", "-0", "00", "01", "007", "-00", "-01", "+1", "+0", "1-", "1-1", "-1-", " 1", "1 ", "- 1", "1\n", "\x001", "1\x00",
		"1_000", "1,000", "1.0", "1e3", "0x1", "0b1", "a", "1a", "x", "/", ":", "1/", "1:", "٣", "1٣", "１", "−1", "\xff", "\xb1",
		digits(201, "9"), "-" + digits(201, "9"), power(200, 0), "-" + power(200, 0), "0" + digits(199, "1"), digits(1<<20, "1"), "-" + digits(1<<20, "0"),
	}
}

// must returns a result that is expected to be one.
func must(t *testing.T, s string, err api.Errno) string {
	t.Helper()
	if err != api.OK || !integer.Valid(s) {
		t.Fatalf("result %q, error %d", s, err)
	}
	return s
}

// checkOperation checks an operation against the plain one, for all pairs.
func checkOperation(t *testing.T, f operation, plainly func(a, b *big.Int) *big.Int) {
	t.Helper()
	for _, p := range pairs(rand.New(rand.NewSource(1))) {
		want, wantErr := plainInteger(plainly(plain(p[0]), plain(p[1])))
		if got, err := f(p[0], p[1]); got != want || err != wantErr {
			t.Fatalf("of %s and %s: %q, error %d; want %q, error %d", p[0], p[1], got, err, want, wantErr)
		}
	}
}

// checkRefused checks that an operation refuses each invalid string, on either side.
func checkRefused(t *testing.T, f operation) {
	t.Helper()
	for _, s := range invalid() {
		for _, p := range [][2]string{{s, "1"}, {"1", s}, {s, "0"}, {"0", s}, {s, s}, {s, digits(200, "9")}, {digits(200, "9"), s}} {
			if got, err := f(p[0], p[1]); got != "" || err != api.ErrInteger {
				t.Errorf("of %.20q and %.20q: %.20q, error %d; want ErrInteger", p[0], p[1], got, err)
			}
		}
	}
}

// numbersAsText are small numbers, and those at the ends of the ints.
func numbersAsText() map[int]string {
	all := map[int]string{math.MinInt: "-9223372036854775808", math.MinInt + 1: "-9223372036854775807", math.MaxInt: "9223372036854775807", math.MaxInt - 1: "9223372036854775806"}
	for n := -20000; n <= 20000; n++ {
		all[n] = strconv.FormatInt(int64(n), 10)
	}
	for n := 1; n > 0 && n < math.MaxInt/10; n *= 10 {
		for _, x := range []int{n - 1, n, n + 1, -n - 1, -n, -n + 1} {
			all[x] = big.NewInt(int64(x)).String()
		}
	}
	return all
}
