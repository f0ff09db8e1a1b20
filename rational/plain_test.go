package rational_test

import (
	"math/big"
	"math/rand"
	"strings"
	"testing"

	"nadir/api"
	"nadir/rational"
)

// The expectations of the tests are computed with the big numbers of Go's library, which share no code with the package.

type operation func(a, b api.Ratio) (api.Ratio, api.Errno)

// plain returns the number s.
func plain(s string) *big.Int {
	n, ok := new(big.Int).SetString(s, 10)
	if !ok {
		panic(s)
	}
	return n
}

// value returns the value of a valid fraction.
func value(r api.Ratio) *big.Rat {
	return new(big.Rat).SetFrac(plain(r.Num), plain(r.Den))
}

// fraction returns the fraction with the value, of whatever size.
func fraction(v *big.Rat) api.Ratio {
	return api.Ratio{Num: v.Num().String(), Den: v.Denom().String()}
}

// read returns the fraction that is written as n or n/d, reduced.
func read(s string) api.Ratio {
	v, ok := new(big.Rat).SetString(s)
	if !ok {
		panic(s)
	}
	return fraction(v)
}

// minus returns 0 minus r.
func minus(r api.Ratio) api.Ratio {
	return fraction(new(big.Rat).Neg(value(r)))
}

// digits returns n times the digit.
func digits(n int, digit string) string {
	return strings.Repeat(digit, n)
}

// power returns 10 to the power of n, plus more.
func power(n int, more int64) string {
	p := new(big.Int).Exp(big.NewInt(10), big.NewInt(int64(n)), nil)
	return p.Add(p, big.NewInt(more)).String()
}

// fits returns n; nil if it is nil or has more than 200 digits.
func fits(n *big.Int) *big.Int {
	if n == nil || len(new(big.Int).Abs(n).String()) > 200 {
		return nil
	}
	return n
}

// product returns a * b; nil if it has more than 200 digits.
func product(a, b string) *big.Int {
	return fits(new(big.Int).Mul(plain(a), plain(b)))
}

// total returns a + b, or a - b if sign is -1; nil if one of them is nil, or the result has more than 200 digits.
func total(a, b *big.Int, sign int64) *big.Int {
	if a == nil || b == nil {
		return nil
	}
	return fits(new(big.Int).Add(a, new(big.Int).Mul(b, big.NewInt(sign))))
}

// reduced returns n / d; a zero value and ErrRational if d is 0 or one of them is nil.
func reduced(n, d *big.Int) (api.Ratio, api.Errno) {
	if n == nil || d == nil || d.Sign() == 0 {
		return api.Ratio{}, api.ErrRational
	}
	return fraction(new(big.Rat).SetFrac(n, d)), api.OK
}

func plainAdd(a, b api.Ratio) (api.Ratio, api.Errno) {
	return reduced(total(product(a.Num, b.Den), product(b.Num, a.Den), 1), product(a.Den, b.Den))
}

func plainSub(a, b api.Ratio) (api.Ratio, api.Errno) {
	return reduced(total(product(a.Num, b.Den), product(b.Num, a.Den), -1), product(a.Den, b.Den))
}

func plainMul(a, b api.Ratio) (api.Ratio, api.Errno) {
	return reduced(product(a.Num, b.Num), product(a.Den, b.Den))
}

func plainDiv(a, b api.Ratio) (api.Ratio, api.Errno) {
	return reduced(product(a.Num, b.Den), product(a.Den, b.Num))
}

// both are an operation and the plain one.
type both struct {
	name    string
	f       operation
	plainly operation
}

func operations() []both {
	return []both{
		{"Add", rational.Add, plainAdd},
		{"Sub", rational.Sub, plainSub},
		{"Mul", rational.Mul, plainMul},
		{"Div", rational.Div, plainDiv},
	}
}

// edges are fractions at the ends of the ints, of the digits and of the places, and small ones, of both signs.
func edges() []api.Ratio {
	texts := []string{
		"1", "2", "7", "1/2", "1/3", "2/3", "3/2", "5/6", "33333/100000", "10000/9999", "22/7",
		"9223372036854775807", "9223372036854775808", "9223372036854775807/9223372036854775808",
		power(29, 0), "1/" + power(30, 0), "1/" + power(31, 0), power(30, 1) + "/" + power(30, 0), power(30, -1) + "/" + power(29, 0),
		power(99, 0), power(100, 0), "1/" + power(99, 0), "1/" + power(100, 0), power(100, -1) + "/" + power(99, 1), power(99, 1) + "/" + power(100, -1),
		power(150, 0) + "/7", "7/" + power(150, 0), power(170, 0) + "/3", power(199, 0), "1/" + power(199, 0),
		digits(200, "9"), "1/" + digits(200, "9"), digits(199, "9") + "8/" + digits(200, "9"), digits(200, "9") + "/" + digits(199, "9") + "8", digits(200, "9") + "/" + power(199, 0),
	}
	all := []api.Ratio{{Num: "0", Den: "1"}}
	for _, s := range texts {
		all = append(all, read(s), read("-"+s))
	}
	return all
}

// randomInteger returns an integer of at most so many digits, often with many zeros or nines in it.
func randomInteger(r *rand.Rand, most int) *big.Int {
	b := make([]byte, 1+r.Intn(most))
	kind := r.Intn(4)
	for i := range b {
		switch {
		case kind == 1 && r.Intn(4) > 0:
			b[i] = '0'
		case kind == 2 && r.Intn(4) > 0:
			b[i] = '9'
		default:
			b[i] = byte('0' + r.Intn(10))
		}
	}
	n := plain(string(b))
	if r.Intn(2) == 0 {
		n.Neg(n)
	}
	return n
}

// random returns a fraction of integers of at most so many digits, before they are reduced.
func random(r *rand.Rand, most int) api.Ratio {
	num, den := randomInteger(r, most), new(big.Int)
	for den.Sign() == 0 {
		den = randomInteger(r, most)
	}
	if r.Intn(3) == 0 {
		// Both get a divisor in common, as far as the digits allow.
		shared := randomInteger(r, most)
		n, d := fits(new(big.Int).Mul(num, shared)), fits(new(big.Int).Mul(den, shared))
		if shared.Sign() != 0 && n != nil && d != nil {
			num, den = n, d
		}
	}
	return fraction(new(big.Rat).SetFrac(num, den))
}

// randomFractions are so many fractions of each of some sizes.
func randomFractions(r *rand.Rand, count int) []api.Ratio {
	var all []api.Ratio
	for _, most := range []int{1, 2, 5, 20, 60, 100, 200} {
		for range count {
			all = append(all, random(r, most))
		}
	}
	return all
}

// pairs are all pairs of edges, and random ones.
func pairs(r *rand.Rand) [][2]api.Ratio {
	var all [][2]api.Ratio
	for _, a := range edges() {
		for _, b := range edges() {
			all = append(all, [2]api.Ratio{a, b})
		}
	}
	for _, most := range []int{1, 2, 5, 20, 49, 98, 110, 200} {
		for range 60 {
			all = append(all, [2]api.Ratio{random(r, most), random(r, most)}, [2]api.Ratio{random(r, most), random(r, 200-most+1)})
		}
	}
	return all
}

// somePairs are so many of the pairs.
func somePairs(r *rand.Rand, count int) [][2]api.Ratio {
	all := pairs(r)
	r.Shuffle(len(all), func(i, j int) { all[i], all[j] = all[j], all[i] })
	return all[:count]
}

// notIntegers are strings that are no valid integers.
func notIntegers() []string {
	return []string{
		"", "-", "--1", "-0", "00", "01", "-01", "+1", "+0", "1-", " 1", "1 ", "1\n", "1\x00", "1_000", "1.0", "1e3", "0x1", "x", "1/1", "/", "٣", "−1", "\xff",
		digits(201, "9"), "-" + digits(201, "9"), power(200, 0), digits(1<<20, "1"), "-" + digits(1<<20, "0"),
	}
}

// invalid are fractions that are not valid.
func invalid() []api.Ratio {
	all := []api.Ratio{
		{}, {Num: "1"}, {Den: "1"}, {Num: "0", Den: "0"}, {Num: "1", Den: "0"}, {Num: "-1", Den: "0"}, {Num: digits(200, "9"), Den: "0"},
		{Num: "0", Den: "2"}, {Num: "0", Den: "-1"}, {Num: "1", Den: "-1"}, {Num: "1", Den: "-2"}, {Num: "-1", Den: "-2"}, {Num: "-3", Den: "-1"},
		{Num: "2", Den: "4"}, {Num: "-2", Den: "4"}, {Num: "2", Den: "2"}, {Num: "6", Den: "3"}, {Num: "3", Den: "6"}, {Num: "0", Den: digits(200, "9")},
		{Num: digits(200, "9"), Den: digits(200, "9")}, {Num: digits(200, "9"), Den: "9"}, {Num: "-9", Den: digits(200, "9")}, {Num: power(199, 0), Den: "5"},
	}
	for _, s := range notIntegers() {
		all = append(all, api.Ratio{Num: s, Den: "1"}, api.Ratio{Num: "1", Den: s}, api.Ratio{Num: s, Den: s})
	}
	return all
}

// short returns a fraction as a text that is not too long for a message.
func short(r api.Ratio) string {
	part := func(s string) string {
		if len(s) > 210 {
			s = s[:20] + ".."
		}
		return strings.ToValidUTF8(s, "?")
	}
	return part(r.Num) + "/" + part(r.Den)
}

// check checks a result against the one that is expected.
func check(t *testing.T, name string, got api.Ratio, err api.Errno, want api.Ratio, wantErr api.Errno) {
	t.Helper()
	if got != want || err != wantErr {
		t.Errorf("%s: %s, error %d; want %s, error %d", name, short(got), err, short(want), wantErr)
	}
}

// checkRefused checks that there is no result.
func checkRefused(t *testing.T, name string, got api.Ratio, err api.Errno) {
	t.Helper()
	check(t, name, got, err, api.Ratio{}, api.ErrRational)
}
