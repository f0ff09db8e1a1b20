package wire_test

import (
	"math"
	"strings"
	"testing"

	"nadir/api"
	"nadir/wire"
)

// plainInt encodes n as the chapter words it, with arithmetic alone.
func plainInt(n int) string {
	z := uint64(n) * 2
	if n < 0 {
		z = uint64(-n)*2 - 1
	}
	code := []byte{}
	for z >= 128 {
		code = append(code, byte(z%128+128))
		z /= 128
	}
	return string(append(code, byte(z)))
}

// edgeInts are the integers around which the number of groups changes, and the bounds.
func edgeInts() []int {
	ints := []int{0, 150, -150, 1000000, -1000000, api.MaxInt - 1, api.MaxInt, 1 - api.MaxInt, -api.MaxInt}
	for bits := range 62 {
		for d := -2; d <= 2; d++ {
			ints = append(ints, 1<<bits+d, -(1<<bits + d))
		}
	}
	return ints
}

func mustInt(t *testing.T, n int) string {
	t.Helper()
	code, err := wire.PutInt(n)
	if err != api.OK {
		t.Fatalf("PutInt(%d): error %d", n, err)
	}
	return code
}

// P1.1: the examples of the chapter.
func TestPutIntExamples(t *testing.T) {
	for _, c := range []struct {
		n    int
		want string
	}{
		{0, "\x00"}, {1, "\x02"}, {-1, "\x01"}, {-64, "\x7f"}, {63, "\x7e"}, {64, "\x80\x01"}, {-65, "\x81\x01"}, {150, "\xac\x02"},
		{8191, "\xfe\x7f"}, {-8192, "\xff\x7f"}, {8192, "\x80\x80\x01"},
		{api.MaxInt, "\xfe\xff\xff\xff\xff\xff\xff\xff\x7f"}, {-api.MaxInt, "\xfd\xff\xff\xff\xff\xff\xff\xff\x7f"},
	} {
		if code, err := wire.PutInt(c.n); code != c.want || err != api.OK {
			t.Errorf("PutInt(%d) = %x, %d; want %x", c.n, code, err, c.want)
		}
	}
}

// P1.1: at every number of groups, and at the bounds.
func TestPutIntEdges(t *testing.T) {
	for _, n := range edgeInts() {
		if code, want := mustInt(t, n), plainInt(n); code != want {
			t.Errorf("PutInt(%d) = %x, want %x", n, code, want)
		}
	}
}

// P1.1: integers out of range have no encoding.
func TestPutIntOutOfRange(t *testing.T) {
	for _, n := range []int{api.MaxInt + 1, -api.MaxInt - 1, api.MaxInt + 2, -api.MaxInt - 2, math.MaxInt, math.MaxInt - 1, math.MinInt, math.MinInt + 1} {
		if code, err := wire.PutInt(n); code != "" || err != api.ErrWire {
			t.Errorf("PutInt(%d) = %x, %d; want ErrWire", n, code, err)
		}
	}
}

// P1.1: integers are decoded at any offset, whatever follows them.
func TestIntDecodes(t *testing.T) {
	for _, n := range edgeInts() {
		code := mustInt(t, n)
		for _, before := range []string{"", "\x00", "\x80", "\xff\xff"} {
			for _, after := range []string{"", "\x00", "\x80", "\xff\xff\xff\xff\xff\xff\xff\xff\xff\xff"} {
				at := len(before)
				got, next, err := wire.Int(before+code+after, at)
				if got != n || next != at+len(code) || err != api.OK {
					t.Errorf("Int(%x %x %x, %d) = %d, %d, %d; want %d", before, code, after, at, got, next, err, n)
				}
			}
		}
	}
}

// P1.1: what is no offset is said before what is no encoding.
func TestIntErrors(t *testing.T) {
	for _, c := range []struct {
		name string
		s    string
		at   int
		want api.Errno
	}{
		{"before the beginning", "\x00", -1, api.ErrArg},
		{"after the end", "\x00", 2, api.ErrArg},
		{"after the end of nothing", "", 1, api.ErrArg},
		{"before the beginning of nothing", "", -1, api.ErrArg},
		{"no offset, nor an encoding", "\x80", 2, api.ErrArg},
		{"the least offset of all", "\x00", math.MinInt, api.ErrArg},
		{"the greatest offset of all", "\x00", math.MaxInt, api.ErrArg},
		{"at the end", "\x00", 1, api.ErrWire},
		{"at the end of nothing", "", 0, api.ErrWire},
		{"one byte that does not end", "\x80", 0, api.ErrWire},
		{"eight bytes that do not end", strings.Repeat("\xff", 8), 0, api.ErrWire},
		{"nine bytes that do not end", strings.Repeat("\xff", 9), 0, api.ErrWire},
		{"a superfluous zero group", "\x80\x00", 0, api.ErrWire},
		{"a superfluous zero group after 150", "\xac\x82\x00", 0, api.ErrWire},
		{"a superfluous zero group at an offset", "\x02\x82\x00\x02", 1, api.ErrWire},
		{"a superfluous zero group after MaxInt", "\xfe\xff\xff\xff\xff\xff\xff\xff\xff\x00", 0, api.ErrWire},
		{"-MaxInt - 1", "\xff\xff\xff\xff\xff\xff\xff\xff\x7f", 0, api.ErrWire},
		{"MaxInt + 1", "\x80\x80\x80\x80\x80\x80\x80\x80\x80\x01", 0, api.ErrWire},
		{"a tenth group with bits above the 64th", "\x80\x80\x80\x80\x80\x80\x80\x80\x80\x02", 0, api.ErrWire},
		{"an eleventh group", "\x82\x80\x80\x80\x80\x80\x80\x80\x80\x80\x01", 0, api.ErrWire},
		{"many groups", strings.Repeat("\x80", 100) + "\x01", 0, api.ErrWire},
	} {
		if n, next, err := wire.Int(c.s, c.at); n != 0 || next != 0 || err != c.want {
			t.Errorf("%s: Int(%x, %d) = %d, %d, %d; want error %d", c.name, c.s, c.at, n, next, err, c.want)
		}
	}
}
