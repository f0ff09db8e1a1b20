package rational_test

import (
	"math/big"
	"math/rand"
	"regexp"
	"strings"
	"testing"

	"nadir/api"
	"nadir/rational"
)

// P4.1: Print leaves a denominator of 1 out, and returns nothing for what is not valid.
func TestPrint(t *testing.T) {
	for _, x := range []struct {
		r    api.Ratio
		want string
	}{
		{api.Ratio{Num: "0", Den: "1"}, "0"}, {api.Ratio{Num: "1", Den: "1"}, "1"}, {api.Ratio{Num: "-7", Den: "1"}, "-7"}, {api.Ratio{Num: "-3", Den: "2"}, "-3/2"},
		{api.Ratio{Num: "1", Den: "11"}, "1/11"}, {api.Ratio{Num: "1", Den: "10"}, "1/10"}, {api.Ratio{Num: "2", Den: "21"}, "2/21"},
		{api.Ratio{Num: digits(200, "9"), Den: "1"}, digits(200, "9")}, {api.Ratio{Num: "-" + digits(200, "9"), Den: power(199, 0)}, "-" + digits(200, "9") + "/" + power(199, 0)},
	} {
		if got := rational.Print(x.r); got != x.want {
			t.Errorf("Print of %s: %q", short(x.r), got)
		}
	}
	for _, r := range invalid() {
		if got := rational.Print(r); got != "" {
			t.Errorf("Print of %s: %q", short(r), got)
		}
	}
}

// P4.6: what Print writes is read back.
func TestParsePrinted(t *testing.T) {
	for _, r := range append(edges(), randomFractions(rand.New(rand.NewSource(17)), 30)...) {
		s := rational.Print(r)
		if want := strings.TrimSuffix(r.Num+"/"+r.Den, "/1"); s != want {
			t.Errorf("Print of %s: %q", short(r), s)
		}
		got, err := rational.Parse(s)
		check(t, "Parse("+s+")", got, err, r, api.OK)
	}
}

// printed reports whether s is a text that Print writes, as far as its characters and its divisors say.
func printed(s string) bool {
	if !regexp.MustCompile(`\A(0|-?[1-9][0-9]*|-?[1-9][0-9]*/([2-9]|[1-9][0-9]+))\z`).MatchString(s) {
		return false
	}
	num, den, _ := strings.Cut(s+"/1", "/")
	den = strings.TrimSuffix(den, "/1")
	return new(big.Int).GCD(nil, nil, new(big.Int).Abs(plain(num)), plain(den)).Int64() == 1
}

// P4.1, P4.6: of all strings of at most five bytes of an alphabet, and of all of at most two bytes, Parse reads exactly those that Print writes.
func TestParseAll(t *testing.T) {
	count := 0
	var checkAll func(s, alphabet string, left int)
	checkAll = func(s, alphabet string, left int) {
		r, err := rational.Parse(s)
		if printed(s) {
			count++
			if err != api.OK || rational.Print(r) != s || !rational.Valid(r) {
				t.Errorf("Parse(%q): %s, error %d", s, short(r), err)
			}
		} else if err != api.ErrRational || r != (api.Ratio{}) {
			t.Errorf("Parse(%q): %s, error %d; want ErrRational", s, short(r), err)
		}
		for i := 0; left > 0 && i < len(alphabet); i++ {
			checkAll(s+alphabet[i:i+1], alphabet, left-1)
		}
	}
	checkAll("", "-+/ 0126", 5)
	bytes := make([]byte, 256)
	for i := range bytes {
		bytes[i] = byte(i)
	}
	checkAll("", string(bytes), 2)
	if count < 500 {
		t.Errorf("only %d fractions", count)
	}
}

// P4.1, P4.6: strings that Print never returns.
func TestParseRefuses(t *testing.T) {
	nines := digits(200, "9")
	strange := []string{
		"3/-2", "6/4", "3/1", "+3", "-3/-2", "0/1", "0/2", "-0", "-0/1", "1/0", "0/0", "1/2/3", "1/2/", "/1/2", "1//2", "1/", "/2", "/", "//", "-/2", "1/ 2", "1 /2", " 1/2", "1/2 ", "1/2\n", "1\\2", "1/02", "01/2", "1/+2", "½", "1÷2", "1∕2", "0.5", "1e3", "1/2\x00", "\x00",
		"1/1/1", "1/1", "2/1", "-1/1", nines + "/1", nines + "/" + nines, nines + "/9", "9/" + nines, "0/" + nines, "1/-" + nines, nines + "9", "1/" + nines + "9", nines + "9/" + nines + "7", digits(1<<20, "1"), "1/" + digits(1<<20, "1"), digits(1<<20, "/"), digits(1<<20, "1/"),
	}
	for _, s := range notIntegers() {
		strange = append(strange, s, "1/"+s, s+"/1", s+"/2", s+"/"+s)
	}
	for _, s := range strange {
		if r, err := rational.Parse(s); err != api.ErrRational || r != (api.Ratio{}) {
			t.Errorf("Parse(%.30q): %s, error %d; want ErrRational", s, short(r), err)
		}
	}
}
