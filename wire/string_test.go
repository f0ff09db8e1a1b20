package wire_test

import (
	"math"
	"strings"
	"testing"

	"nadir/api"
	"nadir/wire"
)

func mustString(t *testing.T, s string) string {
	t.Helper()
	code, err := wire.PutString(s)
	if err != api.OK {
		t.Fatalf("PutString of %d bytes: error %d", len(s), err)
	}
	return code
}

// edgeStrings are strings around whose lengths the length has more groups, and strings that look like encodings.
func edgeStrings() []string {
	texts := []string{"", "ab", "\x00", "\x80", "\xff\xff", "\x04ab", "é€", "a\x00b"}
	for _, n := range []int{1, 63, 64, 65, 8191, 8192, 8193, api.MaxString - 1, api.MaxString} {
		texts = append(texts, strings.Repeat("\x81", n))
	}
	return texts
}

// P1.2: the encoding is that of the length, and then the bytes.
func TestPutString(t *testing.T) {
	if code := mustString(t, "ab"); code != "\x04ab" {
		t.Errorf("PutString(ab) = %x", code)
	}
	for _, s := range edgeStrings() {
		if code, want := mustString(t, s), plainInt(len(s))+s; code != want {
			t.Errorf("PutString of %d bytes = %.20x.. (%d bytes), want %.20x.. (%d bytes)", len(s), code, len(code), want, len(want))
		}
	}
}

// P1.2: strings that are too long have no encoding.
func TestPutStringTooLong(t *testing.T) {
	for _, n := range []int{api.MaxString + 1, api.MaxString + 2, 2 * api.MaxString, 1 << 22} {
		if code, err := wire.PutString(strings.Repeat("x", n)); code != "" || err != api.ErrWire {
			t.Errorf("PutString of %d bytes = %.20x, %d; want ErrWire", n, code, err)
		}
	}
}

// P1.2: strings are decoded at any offset, whatever follows them.
func TestStringDecodes(t *testing.T) {
	for _, s := range edgeStrings() {
		code := mustString(t, s)
		for _, before := range []string{"", "\x00", "\x80", "\xff\xff"} {
			for _, after := range []string{"", "\x00", "\xff\xff\xff"} {
				at := len(before)
				got, next, err := wire.String(before+code+after, at)
				if got != s || next != at+len(code) || err != api.OK {
					t.Errorf("String(%x %.20x.. %x, %d) = %.20x, %d, %d", before, code, after, at, got, next, err)
				}
			}
		}
	}
	if s, next, err := wire.String("\x04\x61\x62\x63", 0); s != "ab" || next != 3 || err != api.OK {
		t.Errorf("the example: String = %q, %d, %d", s, next, err)
	}
}

// P1.2: what is no offset is said before what is no encoding.
func TestStringErrors(t *testing.T) {
	long := strings.Repeat("x", api.MaxString+2)
	for _, c := range []struct {
		name string
		s    string
		at   int
		want api.Errno
	}{
		{"before the beginning", "\x00", -1, api.ErrArg},
		{"after the end", "\x00", 2, api.ErrArg},
		{"no offset, nor an encoding", "\x80", 2, api.ErrArg},
		{"the least offset of all", "\x00", math.MinInt, api.ErrArg},
		{"the greatest offset of all", "\x00", math.MaxInt, api.ErrArg},
		{"at the end", "\x00", 1, api.ErrWire},
		{"nothing", "", 0, api.ErrWire},
		{"a length that does not end", "\x84", 0, api.ErrWire},
		{"a length with a superfluous zero group", "\x84\x00ab", 0, api.ErrWire},
		{"one byte too few", "\x04a", 0, api.ErrWire},
		{"one byte too few at an offset", "xy\x04a", 2, api.ErrWire},
		{"a length without bytes", "\x02", 0, api.ErrWire},
		{"the length -1", "\x01ab", 0, api.ErrWire},
		{"the length -64", "\x7fab", 0, api.ErrWire},
		{"the length -MaxInt", plainInt(-api.MaxInt) + "ab", 0, api.ErrWire},
		{"the length MaxInt", plainInt(api.MaxInt) + "ab", 0, api.ErrWire},
		{"the length MaxString + 1", plainInt(api.MaxString+1) + long, 0, api.ErrWire},
		{"the length MaxString, one byte too few", plainInt(api.MaxString) + long[:api.MaxString-1], 0, api.ErrWire},
		{"a length out of range", "\xff\xff\xff\xff\xff\xff\xff\xff\x7f", 0, api.ErrWire},
	} {
		if s, next, err := wire.String(c.s, c.at); s != "" || next != 0 || err != c.want {
			t.Errorf("%s: String(%.20x, %d) = %.20x, %d, %d; want error %d", c.name, c.s, c.at, s, next, err, c.want)
		}
	}
}
