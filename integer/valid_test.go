package integer_test

import (
	"math/big"
	"math/rand"
	"regexp"
	"testing"

	"nadir/api"
	"nadir/integer"
)

// P3.1: the examples of the chapter, and the edges.
func TestValid(t *testing.T) {
	for _, s := range append(edges(), "-7", digits(200, "1"), "-"+digits(200, "1"), power(199, 0), "-"+power(199, 0)) {
		if !integer.Valid(s) {
			t.Errorf("%q is not valid", s)
		}
	}
	for _, s := range invalid() {
		if integer.Valid(s) {
			t.Errorf("%.20q (%d bytes) is valid", s, len(s))
		}
	}
}

// P3.1: up to 200 digits, whatever the sign, and not one more.
func TestValidLengths(t *testing.T) {
	for n := 1; n <= 210; n++ {
		for _, s := range []string{digits(n, "7"), "-" + digits(n, "7"), "1" + digits(n-1, "0")} {
			if integer.Valid(s) != (n <= 200) {
				t.Errorf("%d digits, %.2q..: %t", n, s, !(n <= 200))
			}
		}
	}
}

// P3.1: every string of at most five bytes of an alphabet, and every string of at most two bytes.
func TestValidAll(t *testing.T) {
	grammar := regexp.MustCompile(`\A(0|-?[1-9][0-9]*)\z`)
	var check func(s, alphabet string, left int)
	check = func(s, alphabet string, left int) {
		if integer.Valid(s) != grammar.MatchString(s) {
			t.Errorf("Valid(%q) = %t", s, integer.Valid(s))
		}
		for i := 0; left > 0 && i < len(alphabet); i++ {
			check(s+alphabet[i:i+1], alphabet, left-1)
		}
	}
	check("", "-+0129 .", 5)
	bytes := make([]byte, 256)
	for i := range bytes {
		bytes[i] = byte(i)
	}
	check("", string(bytes), 2)
}

// P3.1, P3.2: ints become the integers that they are, and are read back.
func TestInts(t *testing.T) {
	for n, s := range numbersAsText() {
		if got := integer.FromInt(n); got != s || !integer.Valid(got) {
			t.Errorf("FromInt(%d) = %q", n, got)
		}
		if got, err := integer.ToInt(s); got != n || err != api.OK {
			t.Errorf("ToInt(%s) = %d, error %d", s, got, err)
		}
	}
}

// P3.1: integers just beyond the ints, far beyond them, and strings that are none.
func TestToIntRefuses(t *testing.T) {
	beyond := []string{"9223372036854775808", "-9223372036854775809", "9223372036854775810", "-9223372036854775810", "10000000000000000000", "-10000000000000000000", "18446744073709551615", "18446744073709551616", "18446744073709551617", "-18446744073709551616", digits(200, "9"), "-" + digits(200, "9"), power(199, 0)}
	for _, s := range append(beyond, invalid()...) {
		if n, err := integer.ToInt(s); n != 0 || err != api.ErrInteger {
			t.Errorf("ToInt(%.30q) = %d, error %d; want ErrInteger", s, n, err)
		}
	}
}

// P3.2: of all strings of at most five bytes that are read as a number, one alone is valid for each.
func TestOneIntegerEach(t *testing.T) {
	integers := map[string]string{}
	var check func(s string, left int)
	check = func(s string, left int) {
		if n, ok := new(big.Int).SetString(s, 10); ok && integer.Valid(s) {
			if other, known := integers[n.String()]; known {
				t.Errorf("%q and %q are the same number", s, other)
			}
			integers[n.String()] = s
		}
		for i := 0; left > 0 && i < len("+-0129"); i++ {
			check(s+"+-0129"[i:i+1], left-1)
		}
	}
	check("", 5)
	// Five digits, or four after a sign, of which the first one is not 0, and 0.
	if want := 3*(1+4+16+64+256) + 3*(1+4+16+64) + 1; len(integers) != want {
		t.Errorf("%d numbers have an integer, want %d", len(integers), want)
	}
	for _, a := range edges() {
		for _, b := range edges() {
			if (integer.Compare(a, b) == 0) != (a == b) {
				t.Errorf("%s and %s are different integers of one number", a, b)
			}
		}
	}
}

// P3.2: whatever way a number is calculated, it is the same string.
func TestOneResultEach(t *testing.T) {
	r := rand.New(rand.NewSource(2))
	for _, s := range append(edges(), randomInteger(r, 100), randomInteger(r, 100)) {
		if len(s) > 199 {
			continue
		}
		got := []string{}
		keep := func(result string, err api.Errno) string {
			got = append(got, must(t, result, err))
			return result
		}
		keep(integer.Add(s, "0"))
		keep(integer.Add("0", s))
		keep(integer.Sub(s, "0"))
		keep(integer.Mul(s, "1"))
		keep(integer.Mul("1", s))
		more, _ := integer.Add(s, "12345")
		keep(integer.Sub(more, "12345"))
		less, _ := integer.Sub(s, "10000")
		keep(integer.Add(less, "10000"))
		minus, _ := integer.Mul(s, "-1")
		keep(integer.Mul(minus, "-1"))
		keep(integer.Sub("0", minus))
		q, rest, err := integer.Div(s, "1")
		keep(q, err)
		if rest != "0" {
			t.Errorf("%s by 1 leaves %s", s, rest)
		}
		for _, other := range got {
			if other != s {
				t.Errorf("%s is calculated as %s", s, other)
			}
		}
	}
}

// P3.2: no result is a zero with a sign, whatever it comes from.
func TestZero(t *testing.T) {
	for _, s := range edges() {
		zeros := []string{}
		keep := func(result string, err api.Errno) { zeros = append(zeros, must(t, result, err)) }
		minus := new(big.Int).Neg(plain(s)).String()
		keep(integer.Add(s, minus))
		keep(integer.Sub(s, s))
		keep(integer.Mul(s, "0"))
		keep(integer.Mul("0", s))
		if s != "0" {
			q, rest, err := integer.Div("0", s)
			keep(q, err)
			keep(rest, err)
			_, rest, err = integer.Div(minus, s)
			keep(rest, err)
		}
		for i, zero := range zeros {
			if zero != "0" {
				t.Errorf("the zero %d of %s is %q", i, s, zero)
			}
		}
	}
	if q, rest, err := integer.Div("3", "-5"); q != "0" || rest != "3" || err != api.OK {
		t.Errorf("Div(3, -5) = %q, %q, error %d", q, rest, err)
	}
}
