package wire_test

import (
	"hash/crc32"
	"math/bits"
	"math/rand"
	"strings"
	"testing"

	"nadir/wire"
)

// plainSum is the checksum as the chapter words it, bit by bit.
func plainSum(s string) int {
	register := uint32(0xffffffff)
	for i := 0; i < len(s); i++ {
		register ^= uint32(s[i])
		for range 8 {
			out := register % 2
			register /= 2
			if out == 1 {
				register ^= 0x82f63b78
			}
		}
	}
	return int(^register)
}

func randomString(r *rand.Rand, n int) string {
	b := make([]byte, n)
	r.Read(b)
	return string(b)
}

// P1.3: known checksums (the last four are those of RFC 3720, B.4).
func TestSumKnown(t *testing.T) {
	up, down := make([]byte, 32), make([]byte, 32)
	for i := range up {
		up[i], down[31-i] = byte(i), byte(i)
	}
	for _, c := range []struct {
		s    string
		want int
	}{
		{"", 0}, {"a", 3251651376}, {"123456789", 3808858755},
		{strings.Repeat("\x00", 32), 0x8a9136aa}, {strings.Repeat("\xff", 32), 0x62a8ab43}, {string(up), 0x46dd794e}, {string(down), 0x113fdb5c},
	} {
		if got := wire.Sum(c.s); got != c.want {
			t.Errorf("Sum(%x) = %d, want %d", c.s, got, c.want)
		}
	}
}

// P1.3: all strings of at most two bytes, and longer ones.
func TestSumAgrees(t *testing.T) {
	texts := []string{}
	for a := range 256 {
		texts = append(texts, string([]byte{byte(a)}))
		for b := range 256 {
			texts = append(texts, string([]byte{byte(a), byte(b)}))
		}
	}
	r := rand.New(rand.NewSource(1))
	for n := range 200 {
		texts = append(texts, randomString(r, n))
	}
	texts = append(texts, randomString(r, 100000))
	castagnoli := crc32.MakeTable(crc32.Castagnoli)
	for _, s := range texts {
		got, want := wire.Sum(s), plainSum(s)
		if got != want || got != int(crc32.Checksum([]byte(s), castagnoli)) {
			t.Fatalf("Sum(%.20x) = %d, want %d", s, got, want)
		}
	}
}

// changed is s with the bits of pattern changed, from the bit first on; the bits of each byte are counted from the lowest one.
func changed(s string, first int, pattern uint32) string {
	b := []byte(s)
	for i := range 32 {
		if pattern>>i&1 == 1 {
			at := first + i
			b[at/8] ^= 1 << (at % 8)
		}
	}
	return string(b)
}

// rank is the number of words of which none is a XOR of others.
func rank(words []uint32) int {
	byTop := [33]uint32{}
	n := 0
	for _, w := range words {
		for w != 0 && byTop[bits.Len32(w)] != 0 {
			w ^= byTop[bits.Len32(w)]
		}
		if w != 0 {
			byTop[bits.Len32(w)] = w
			n++
		}
	}
	return n
}

// P1.4: what a change does to the Sum is the XOR of what its bits do, and what 32 bits that follow each other do is independent: so no change of them leaves it as it is.
func TestSumOfChangedBits(t *testing.T) {
	r := rand.New(rand.NewSource(2))
	for _, n := range []int{4, 5, 9, 24, 70} {
		s := randomString(r, n)
		sum := wire.Sum(s)
		for first := 0; first+32 <= 8*n; first++ {
			words := make([]uint32, 32)
			for i := range words {
				words[i] = uint32(sum ^ wire.Sum(changed(s, first, 1<<i)))
			}
			if got := rank(words); got != 32 {
				t.Fatalf("%d bytes, from the bit %d on: rank %d", n, first, got)
			}
			for range 50 {
				pattern := r.Uint32() | 1
				want := sum
				for i, w := range words {
					if pattern>>i&1 == 1 {
						want ^= int(w)
					}
				}
				if got := wire.Sum(changed(s, first, pattern)); got != want || got == sum {
					t.Fatalf("%d bytes, from the bit %d on, %08x changed: Sum %d, want %d, before %d", n, first, pattern, got, want, sum)
				}
			}
		}
	}
}

// P1.4: every change of at most 16 consecutive bits of strings shorter than 32 bits too.
func TestSumOfChangedBitsInShortStrings(t *testing.T) {
	for _, s := range []string{"\x00", "a", "ab", "\x00\x00", "abc", "\xff\xff\xff"} {
		sum := wire.Sum(s)
		for first := range 8 * len(s) {
			most := min(16, 8*len(s)-first)
			for pattern := uint32(1); pattern < 1<<most; pattern += 2 {
				if wire.Sum(changed(s, first, pattern)) == sum {
					t.Fatalf("%x, from the bit %d on, %x changed: the same Sum", s, first, pattern)
				}
			}
		}
	}
}
