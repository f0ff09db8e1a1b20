package digest_test

import (
	"encoding/hex"
	"math/rand"
	"strings"
	"testing"

	"nadir/digest"
)

// P2.1: the examples of the chapter, and known digests (FIPS 180-4).
func TestSumKnown(t *testing.T) {
	for _, c := range []struct {
		name, got, want string
	}{
		{"Sum of nothing", digest.Sum(""), "e3b0c44298fc1c149afbf4c8996fb92427ae41e4649b934ca495991b7852b855"},
		{"Sum of abc", digest.Sum("abc"), "ba7816bf8f01cfea414140de5dae2223b00361a396177a9cb410ff61f20015ad"},
		{"Leaf of abc", digest.Leaf("abc"), "609f6e36d2405585188d5cfd761f407c7cc46a7d3f314c88270469dde315fcd1"},
		{"Sum of two blocks", digest.Sum("abcdbcdecdefdefgefghfghighijhijkijkljklmklmnlmnomnopnopq"), "248d6a61d20638b8e5c026930c3e6039a33ce45964ff2167f6ecedd419db06c1"},
		{"Sum of a million bytes", digest.Sum(strings.Repeat("a", 1000000)), "cdc76e5c9914fb9281a1c7e284d73e67f1809a48a497200e046d39ccc7112cd0"},
	} {
		if got := hex.EncodeToString([]byte(c.got)); got != c.want {
			t.Errorf("%s = %s, want %s", c.name, got, c.want)
		}
	}
}

// P2.1: all lengths around the ends of blocks, of zeros, ones and any bytes.
func TestSumLengths(t *testing.T) {
	r := rand.New(rand.NewSource(1))
	for n := range 600 {
		for _, s := range []string{strings.Repeat("\x00", n), strings.Repeat("\xff", n), randomString(r, n)} {
			if got, want := digest.Sum(s), plainSum(s); got != want {
				t.Fatalf("Sum of %d bytes %.20x = %x, want %x", n, s, got, want)
			}
		}
	}
}

// P2.1: lengths whose number of bits has two, three and four bytes.
func TestSumOfLongStrings(t *testing.T) {
	r := rand.New(rand.NewSource(2))
	for _, n := range []int{1<<13 - 1, 1 << 13, 1<<13 + 1, 1<<16 + 55, 1<<16 + 56, 1<<21 - 1, 1 << 21, 1<<21 + 63} {
		s := randomString(r, n)
		if got, want := digest.Sum(s), plainSum(s); got != want {
			t.Errorf("Sum of %d bytes = %x, want %x", n, got, want)
		}
	}
}

// P2.1: Chain, Leaf and Node take any strings, wherever these end in a block.
func TestMarks(t *testing.T) {
	r := rand.New(rand.NewSource(3))
	lengths := []int{0, 1, 2, 31, 32, 33, 54, 55, 56, 62, 63, 64, 65, 127, 128, 200}
	for _, m := range lengths {
		a := randomString(r, m)
		if got, want := digest.Leaf(a), plainLeaf(a); got != want {
			t.Errorf("Leaf of %d bytes = %x, want %x", m, got, want)
		}
		for _, n := range lengths {
			b := randomString(r, n)
			if got, want := digest.Chain(a, b), plainSum("\x02", a, b); got != want {
				t.Errorf("Chain of %d and %d bytes = %x, want %x", m, n, got, want)
			}
			if got, want := digest.Node(a, b), plainNode(a, b); got != want {
				t.Errorf("Node of %d and %d bytes = %x, want %x", m, n, got, want)
			}
		}
	}
}

// P2.3: leaves, nodes and records of the same bytes differ, as do their Sums.
func TestMarksDiffer(t *testing.T) {
	for _, s := range []string{"", "a", "\x00", "\x01", "\x02", "\x00\x00", strings.Repeat("x", 64)} {
		all := map[string]bool{digest.Sum(s): true, digest.Leaf(s): true, digest.Node("", s): true, digest.Chain("", s): true}
		if len(all) != 4 {
			t.Errorf("of %q, %d digests out of 4 differ", s, len(all))
		}
	}
}

// headOf is the head of a list of records.
func headOf(records ...string) string {
	head := strings.Repeat("\x00", 32)
	for _, record := range records {
		head = digest.Chain(head, record)
	}
	return head
}

// P2.3: different lists of records have different heads, also if they consist of the same bytes, or if a record looks like a head and a record.
func TestHeads(t *testing.T) {
	parts := []string{"", "a", "b", "ab", "\x00", "\x02", strings.Repeat("\x00", 32), headOf("a"), headOf("a") + "b", "\x02" + headOf() + "a"}
	lists := [][]string{{}}
	heads := map[string]int{}
	for at := 0; at < len(lists); at++ {
		head := headOf(lists[at]...)
		if other, ok := heads[head]; ok {
			t.Errorf("%q and %q have the same head", lists[other], lists[at])
		}
		heads[head] = at
		if len(lists[at]) == 3 {
			continue
		}
		for _, part := range parts {
			lists = append(lists, append(lists[at][:len(lists[at]):len(lists[at])], part))
		}
	}
	if len(heads) != 1111 {
		t.Errorf("%d different heads, want 1111", len(heads))
	}
}

// P2.3: changing, adding, removing or exchanging records changes the head.
func TestHeadsOfChangedLists(t *testing.T) {
	l := list(6)
	head := headOf(l...)
	for i := range l {
		changed := list(6)
		changed[i] += "x"
		without := append(list(6)[:i], l[i+1:]...)
		twice := append(append(list(6)[:i], l[i]), l[i:]...)
		for _, other := range [][]string{changed, without, twice, l[:i]} {
			if headOf(other...) == head {
				t.Errorf("%q has the head of %q", other, l)
			}
		}
		for k := range i {
			exchanged := list(6)
			exchanged[i], exchanged[k] = exchanged[k], exchanged[i]
			if headOf(exchanged...) == head {
				t.Errorf("%q has the head of %q", exchanged, l)
			}
		}
	}
}
