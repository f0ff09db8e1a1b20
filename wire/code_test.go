package wire_test

import (
	"math/rand"
	"strings"
	"testing"

	"nadir/api"
	"nadir/wire"
)

// shortStrings are all strings of at most two bytes, and longer ones of bytes at the edges of groups.
func shortStrings() []string {
	all := []string{""}
	for a := range 256 {
		all = append(all, string([]byte{byte(a)}))
		for b := range 256 {
			all = append(all, string([]byte{byte(a), byte(b)}))
		}
	}
	edges := []string{"\x00", "\x01", "\x7e", "\x7f", "\x80", "\x81", "\xfe", "\xff"}
	longer := []string{""}
	for n := 1; n <= 5; n++ {
		next := []string{}
		for _, s := range longer {
			for _, e := range edges {
				next = append(next, s+e)
			}
		}
		longer = next
		if n > 2 {
			all = append(all, longer...)
		}
	}
	return all
}

// P1.4: what Int accepts is exactly what PutInt returns.
func TestIntAcceptsEncodingsOnly(t *testing.T) {
	ends := []string{"", "\xff\xff\xff\xff\x7f", "\xff\xff\xff\xff\xff\x00", "\x80\x80\x80\x80\x80\x80\x01"}
	for _, s := range shortStrings() {
		for _, end := range ends {
			s := s + end
			n, next, err := wire.Int(s, 0)
			if err == api.OK {
				if code := mustInt(t, n); code != s[:next] {
					t.Fatalf("Int accepts %x as %d, whose encoding is %x", s[:next], n, code)
				}
			} else if code := prefixInt(s); code != "" {
				t.Fatalf("Int refuses %x, which begins with the encoding %x", s, code)
			}
		}
	}
}

// prefixInt is the encoding of an integer with which s begins, found without Int: the number is added up, and encoded again.
func prefixInt(s string) string {
	sum, unit := uint64(0), uint64(1)
	for i := 0; i < len(s) && i < 9; i++ {
		sum += uint64(s[i]%128) * unit
		unit *= 128
		if s[i] >= 128 {
			continue
		}
		n := int(sum / 2)
		if sum%2 == 1 {
			n = -n - 1
		}
		if code, err := wire.PutInt(n); err == api.OK && code == s[:i+1] {
			return code
		}
		return ""
	}
	return ""
}

// P1.4: what String accepts is exactly what PutString returns.
func TestStringAcceptsEncodingsOnly(t *testing.T) {
	for _, s := range shortStrings() {
		text, next, err := wire.String(s, 0)
		if err == api.OK {
			if code := mustString(t, text); code != s[:next] {
				t.Fatalf("String accepts %x as %x, whose encoding is %x", s[:next], text, code)
			}
			continue
		}
		n, after, err := wire.Int(s, 0)
		if err == api.OK && n >= 0 && after+n <= len(s) {
			t.Fatalf("String refuses %x, which begins with the encoding of %x", s, s[after:after+n])
		}
	}
}

// P1.4: encodings differ, and none begins another one.
func TestEncodingsArePrefixFree(t *testing.T) {
	ints := map[string]int{}
	for _, n := range edgeInts() {
		ints[mustInt(t, n)] = n
	}
	for n := -20000; n <= 20000; n++ {
		code := mustInt(t, n)
		if m, ok := ints[code]; ok && m != n {
			t.Fatalf("%d and %d have the encoding %x", n, m, code)
		}
		ints[code] = n
	}
	for code, n := range ints {
		for end := range len(code) {
			if m, ok := ints[code[:end]]; ok {
				t.Fatalf("the encoding %x of %d begins with that of %d", code, n, m)
			}
		}
	}
	codes := []string{}
	for _, s := range edgeStrings() {
		codes = append(codes, mustString(t, s))
	}
	for i, a := range codes {
		for j, b := range codes {
			if i != j && strings.HasPrefix(a, b) {
				t.Fatalf("the encoding %.20x begins with %.20x", a, b)
			}
		}
	}
}

// P1.4: concatenations of encodings are decoded to what was encoded.
func TestConcatenations(t *testing.T) {
	r := rand.New(rand.NewSource(3))
	for range 2000 {
		items := []any{}
		before := randomString(r, r.Intn(4))
		var all strings.Builder
		all.WriteString(before)
		for range r.Intn(12) {
			if r.Intn(2) == 0 {
				n := int(r.Uint64()>>r.Intn(64))>>2 - r.Intn(300)
				items = append(items, n)
				all.WriteString(mustInt(t, n))
			} else {
				s := randomString(r, r.Intn(200))
				items = append(items, s)
				all.WriteString(mustString(t, s))
			}
		}
		end := all.Len()
		all.WriteString(randomString(r, r.Intn(4)))
		checkItems(t, all.String(), len(before), end, items)
	}
}

func checkItems(t *testing.T, s string, at, end int, items []any) {
	t.Helper()
	for _, item := range items {
		var got any
		var err api.Errno
		if _, isInt := item.(int); isInt {
			got, at, err = wire.Int(s, at)
		} else {
			got, at, err = wire.String(s, at)
		}
		if got != item || err != api.OK {
			t.Fatalf("%#v is decoded as %#v, error %d", item, got, err)
		}
	}
	if at != end {
		t.Fatalf("the last encoding ends at %d, not at %d", end, at)
	}
}
