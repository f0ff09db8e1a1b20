package digest_test

import (
	"math"
	"math/rand"
	"slices"
	"strings"
	"testing"

	"nadir/api"
	"nadir/digest"
)

const mostEntries = 70

// P2.1: the roots of no entries, of one entry, and of lists on both sides of powers of two.
func TestRoot(t *testing.T) {
	for n := range mostEntries {
		if got, want := digest.Root(list(n)), plainRoot(list(n)); got != want {
			t.Errorf("Root of %d entries = %x, want %x", n, got, want)
		}
	}
	if digest.Root(nil) != digest.Sum("") || digest.Root([]string{}) != digest.Sum("") {
		t.Error("the root of no entries is not the Sum of the empty string")
	}
	if digest.Root([]string{""}) != digest.Leaf("") {
		t.Error("the root of an empty entry is not its leaf")
	}
	a, b, c := digest.Leaf("a"), digest.Leaf("b"), digest.Leaf("c")
	if digest.Root([]string{"a", "b", "c"}) != digest.Node(digest.Node(a, b), c) {
		t.Error("the root of three entries")
	}
}

// P2.1: a greater list, whose entries are long or the same.
func TestRootOfManyEntries(t *testing.T) {
	r := rand.New(rand.NewSource(4))
	for _, n := range []int{255, 256, 257, 1000, 4097} {
		l := make([]string, n)
		for i := range l {
			l[i] = randomString(r, r.Intn(3)*r.Intn(100))
		}
		if digest.Root(l) != plainRoot(l) {
			t.Errorf("the root of %d entries", n)
		}
	}
}

// P2.1, P2.2: each proof is what the chapter says, is accepted, and is short.
func TestProof(t *testing.T) {
	for n := 1; n < mostEntries; n++ {
		l := list(n)
		root := digest.Root(l)
		for i := range n {
			proof, err := digest.Proof(l, i)
			if !slices.Equal(proof, plainProof(l, i)) || err != api.OK {
				t.Fatalf("Proof of %d entries, %d: %x, error %d", n, i, proof, err)
			}
			if !digest.Verify(root, n, i, l[i], proof) {
				t.Fatalf("the proof of %d entries, %d is not accepted", n, i)
			}
			if len(proof) > binaryDigits(n) {
				t.Fatalf("the proof of %d entries, %d has %d elements", n, i, len(proof))
			}
		}
	}
}

// P2.1: the example of the chapter.
func TestProofExample(t *testing.T) {
	l := []string{"a", "b", "c"}
	want := []string{digest.Node(digest.Leaf("a"), digest.Leaf("b"))}
	if proof, err := digest.Proof(l, 2); !slices.Equal(proof, want) || err != api.OK {
		t.Errorf("Proof = %x, error %d; want %x", proof, err, want)
	}
}

// P2.1: an index that is none.
func TestProofErrors(t *testing.T) {
	for n := range 5 {
		for _, i := range []int{-1, -2, n, n + 1, math.MinInt, math.MaxInt} {
			if proof, err := digest.Proof(list(n), i); len(proof) > 0 || err != api.ErrArg {
				t.Errorf("Proof of %d entries, %d: %x, error %d; want ErrArg", n, i, proof, err)
			}
		}
	}
	if proof, err := digest.Proof(nil, 0); len(proof) > 0 || err != api.ErrArg {
		t.Errorf("Proof of nil, 0: %x, error %d; want ErrArg", proof, err)
	}
}

// alterations are proofs that differ a little from the given one: too short, too long, changed, out of order, or with elements that are no digests.
func alterations(proof []string) [][]string {
	zero := strings.Repeat("\x00", 32)
	all := [][]string{nil, append(slices.Clone(proof), zero), append([]string{zero}, proof...), append(slices.Clone(proof), "")}
	for i, x := range proof {
		all = append(all, proof[:i], proof[i+1:], slices.Concat(proof[:i], proof[i+1:]), slices.Insert(slices.Clone(proof), i, x))
		for _, y := range []string{"", x[1:], x[:31], x + "\x00", "\x00" + x, x + x, zero, string([]byte{x[0] ^ 1}) + x[1:], x[:31] + string([]byte{x[31] ^ 128})} {
			changed := slices.Clone(proof)
			changed[i] = y
			all = append(all, changed)
		}
		if i > 0 {
			exchanged := slices.Clone(proof)
			exchanged[i-1], exchanged[i] = x, exchanged[i-1]
			all = append(all, exchanged)
		}
	}
	return all
}

// P2.1, P2.3: for each list, what Verify says of all entries, proofs, indices and numbers of entries, whether they belong together or not.
func TestVerifyPairs(t *testing.T) {
	const most = 12
	for n := 1; n <= most; n++ {
		l := list(n)
		root := digest.Root(l)
		for i := range n {
			proof, _ := digest.Proof(l, i)
			for otherN := -1; otherN <= most+1; otherN++ {
				for k := -1; k <= most; k++ {
					want := plainVerify(root, otherN, k, l[i], proof)
					if got := digest.Verify(root, otherN, k, l[i], proof); got != want {
						t.Fatalf("Verify of %d of %d, as %d of %d: %t", i, n, k, otherN, got)
					}
				}
			}
			for k, s := range l {
				if digest.Verify(root, n, i, s, proof) != (k == i) {
					t.Fatalf("with the proof of %d of %d, the entry %d", i, n, k)
				}
			}
		}
	}
}

// P2.1, P2.3: altered proofs, entries and roots are refused.
func TestVerifyRefuses(t *testing.T) {
	for n := 1; n <= 20; n++ {
		l := list(n)
		root := digest.Root(l)
		for i := range n {
			proof, _ := digest.Proof(l, i)
			for _, altered := range alterations(proof) {
				if !slices.Equal(altered, proof) && digest.Verify(root, n, i, l[i], altered) {
					t.Fatalf("the proof %x of %d of %d is accepted as %x", proof, i, n, altered)
				}
			}
			for _, s := range []string{"", l[i] + "x", "x" + l[i], "\x00" + l[i], digest.Leaf(l[i])} {
				if digest.Verify(root, n, i, s, proof) {
					t.Fatalf("the entry %d of %d is accepted as %q", i, n, s)
				}
			}
			for _, other := range []string{"", root[:31], root + "\x00", digest.Root(nil), digest.Root(l[:i]), digest.Leaf(root)} {
				if digest.Verify(other, n, i, l[i], proof) {
					t.Fatalf("the root of %d entries is accepted as %x", n, other)
				}
			}
		}
	}
}

// P2.1: of no entries, or fewer, none is one; and no index out of range is one.
func TestVerifyRange(t *testing.T) {
	for _, n := range []int{0, -1, -2, math.MinInt, math.MinInt + 1} {
		for _, i := range []int{0, -1, n, n - 1, n + 1} {
			if digest.Verify(digest.Root(nil), n, i, "", nil) || digest.Verify(digest.Leaf(""), n, i, "", nil) {
				t.Errorf("Verify of %d of %d", i, n)
			}
		}
	}
	root, proof := digest.Root(list(2)), []string{digest.Leaf("entry 0")}
	for _, i := range []int{-1, 2, 3, math.MinInt, math.MaxInt} {
		if digest.Verify(root, 2, i, "entry 1", proof) {
			t.Errorf("Verify of %d of 2", i)
		}
	}
}

// P2.3: a node is not an entry, nor an entry a node.
func TestNodesAreNoEntries(t *testing.T) {
	l := list(4)
	left, right := digest.Root(l[:2]), digest.Root(l[2:])
	root := digest.Root(l)
	for _, mark := range []string{"", "\x00", "\x01"} {
		if digest.Verify(root, 1, 0, mark+left+right, nil) {
			t.Errorf("the root of four is that of the entry %q, left and right", mark)
		}
		inner := mark + digest.Leaf(l[0]) + digest.Leaf(l[1])
		if digest.Verify(root, 2, 0, inner, []string{right}) {
			t.Errorf("the left half of four is the entry %q and two leaves", mark)
		}
	}
	if digest.Verify(digest.Root([]string{left, right}), 4, 0, l[0], []string{digest.Leaf(l[1]), right}) {
		t.Error("an entry that is a digest is a node")
	}
}

// hugeNumbers are numbers of entries that no list has.
func hugeNumbers() []int {
	all := []int{math.MaxInt, math.MaxInt - 1}
	for power := 20; power < 63; power += 7 {
		all = append(all, 1<<power-1, 1<<power, 1<<power+1)
	}
	return append(all, 1<<62-1, 1<<62, 1<<62+1)
}

// P2.1: numbers of entries up to the greatest one, at the first, the last and other indices.
func TestVerifyHuge(t *testing.T) {
	r := rand.New(rand.NewSource(5))
	for _, n := range hugeNumbers() {
		for _, i := range []int{0, 1, n / 2, n/2 + 1, n - 2, n - 1, r.Intn(n)} {
			accepted := 0
			for length := range 66 {
				proof := digests(r, length)
				value, ok := plainValue(n, i, "s", proof)
				if digest.Verify(value, n, i, "s", proof) != ok {
					t.Fatalf("Verify of %d of %d with %d elements, want %t", i, n, length, ok)
				}
				if ok {
					accepted++
				}
			}
			if accepted != 1 {
				t.Fatalf("Verify of %d of %d: %d lengths are accepted", i, n, accepted)
			}
		}
	}
}

// P2.1: no argument is changed, nor what lies behind it; results are new (R3).
func TestProofsAreNew(t *testing.T) {
	whole := list(9)
	l := whole[:7]
	proof, _ := digest.Proof(l, 6)
	extension, _ := digest.Extension(l, 5)
	wantProof, wantExtension := slices.Clone(proof), slices.Clone(extension)
	for _, s := range [][]string{proof, extension} {
		s = s[:cap(s)]
		for i := range s {
			s[i] = "changed"
		}
	}
	if !slices.Equal(whole, list(9)) {
		t.Error("the list has changed")
	}
	again, _ := digest.Proof(l, 6)
	extensionAgain, _ := digest.Extension(l, 5)
	if !slices.Equal(again, wantProof) || !slices.Equal(extensionAgain, wantExtension) {
		t.Error("a result is not new")
	}
	given := append(make([]string, 0, 9), wantExtension...)
	digest.VerifyExtension(digest.Root(l[:5]), 5, digest.Root(l), 7, given)
	digest.Verify(digest.Root(l), 7, 6, l[6], given)
	if !slices.Equal(given, wantExtension) || !slices.Equal(given[:9][len(given):], make([]string, 9-len(given))) {
		t.Error("a proof has changed")
	}
}
