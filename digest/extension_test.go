package digest_test

import (
	"math"
	"math/rand"
	"slices"
	"strings"
	"testing"

	"nadir/api"
	"nadir/digest"
)

// P2.1, P2.2: each extension is what the chapter says, is accepted, and is short; m of 0 and of n included.
func TestExtension(t *testing.T) {
	for n := range mostEntries {
		l := list(n)
		root := digest.Root(l)
		for m := 0; m <= n; m++ {
			proof, err := digest.Extension(l, m)
			if !slices.Equal(proof, plainExtension(l, m)) || err != api.OK {
				t.Fatalf("Extension of %d entries, %d: %x, error %d", n, m, proof, err)
			}
			if !digest.VerifyExtension(digest.Root(l[:m]), m, root, n, proof) {
				t.Fatalf("the extension of %d entries, %d is not accepted", n, m)
			}
			if len(proof) > 2*binaryDigits(n) {
				t.Fatalf("the extension of %d entries, %d has %d elements", n, m, len(proof))
			}
		}
	}
}

// P2.1: the example of the chapter.
func TestExtensionExample(t *testing.T) {
	want := []string{digest.Leaf("b"), digest.Leaf("c")}
	if proof, err := digest.Extension([]string{"a", "b", "c"}, 1); !slices.Equal(proof, want) || err != api.OK {
		t.Errorf("Extension = %x, error %d; want %x", proof, err, want)
	}
}

// P2.1: an m that is not from 0 to n.
func TestExtensionErrors(t *testing.T) {
	for n := range 5 {
		for _, m := range []int{-1, -2, n + 1, n + 2, math.MinInt, math.MaxInt} {
			if proof, err := digest.Extension(list(n), m); len(proof) > 0 || err != api.ErrArg {
				t.Errorf("Extension of %d entries, %d: %x, error %d; want ErrArg", n, m, proof, err)
			}
		}
	}
}

// P2.1, P2.4: for each list, what VerifyExtension says of all beginnings, proofs and numbers, whether they belong together or not.
func TestVerifyExtensionPairs(t *testing.T) {
	const most = 9
	for n := 0; n <= most; n++ {
		l := list(n)
		root := digest.Root(l)
		for m := 0; m <= n; m++ {
			proof, _ := digest.Extension(l, m)
			for k := 0; k <= n; k++ {
				old := digest.Root(l[:k])
				if digest.VerifyExtension(old, m, root, n, proof) != (k == m) {
					t.Fatalf("the extension of %d entries, %d, from the root of %d", n, m, k)
				}
				for otherM := -1; otherM <= most+1; otherM++ {
					for otherN := -1; otherN <= most+1; otherN++ {
						want := plainVerifyExtension(old, otherM, root, otherN, proof)
						if got := digest.VerifyExtension(old, otherM, root, otherN, proof); got != want {
							t.Fatalf("the extension of %d entries, %d, from the root of %d, as of %d and %d: %t", n, m, k, otherN, otherM, got)
						}
					}
				}
			}
		}
	}
}

// P2.1, P2.4: altered proofs, beginnings and roots are refused.
func TestVerifyExtensionRefuses(t *testing.T) {
	for n := range 20 {
		l := list(n)
		root := digest.Root(l)
		for m := 0; m <= n; m++ {
			old := digest.Root(l[:m])
			proof, _ := digest.Extension(l, m)
			for _, altered := range alterations(proof) {
				if !slices.Equal(altered, proof) && digest.VerifyExtension(old, m, root, n, altered) {
					t.Fatalf("the extension %x of %d entries, %d is accepted as %x", proof, n, m, altered)
				}
			}
			for _, s := range []string{"", old[:31], old + "\x00", "\x00" + old, strings.Repeat("\x00", 32), digest.Leaf(old), digest.Root(list(m + 1))} {
				if digest.VerifyExtension(s, m, root, n, proof) {
					t.Fatalf("the beginning of %d of %d entries is accepted as %x", m, n, s)
				}
			}
			for _, s := range []string{"", root[:31], root + "\x00", "\x00" + root} {
				if digest.VerifyExtension(old, m, s, n, proof) {
					t.Fatalf("the root of %d entries is accepted as %x", n, s)
				}
			}
			if other := digest.Leaf(root); m > 0 && digest.VerifyExtension(old, m, other, n, proof) {
				t.Fatalf("the root of %d entries is accepted as %x", n, other)
			}
		}
	}
}

// P2.4: a list that begins otherwise has no proof among those of the lists that share entries with it.
func TestOtherBeginnings(t *testing.T) {
	for n := 2; n <= 17; n++ {
		l := list(n)
		root := digest.Root(l)
		for m := 1; m < n; m++ {
			proof, _ := digest.Extension(l, m)
			for at := range m {
				other := list(n)
				other[at] = "other"
				old := digest.Root(other[:m])
				otherProof, _ := digest.Extension(other, m)
				if digest.VerifyExtension(old, m, root, n, proof) || digest.VerifyExtension(old, m, root, n, otherProof) {
					t.Fatalf("the first %d of %d entries, of which the entry %d is another one", m, n, at)
				}
			}
		}
	}
}

// P2.1: no entries begin every list, whatever its root is, even that of a list of none.
func TestBeginningOfNone(t *testing.T) {
	none := digest.Root(nil)
	zero := strings.Repeat("\x00", 32)
	for _, n := range []int{0, 1, 2, 7, math.MaxInt} {
		for _, root := range []string{none, zero, digest.Leaf("a")} {
			if !digest.VerifyExtension(none, 0, root, n, nil) || !digest.VerifyExtension(none, 0, root, n, []string{}) {
				t.Errorf("the beginning of none of %d entries with the root %x", n, root)
			}
			if digest.VerifyExtension(none, 0, root, n, []string{zero}) || digest.VerifyExtension(zero, 0, root, n, nil) {
				t.Errorf("the beginning of none of %d entries with the root %x, with another proof or beginning", n, root)
			}
		}
		if digest.VerifyExtension(none, 0, "", n, nil) || digest.VerifyExtension(none, 0, none+"x", n, nil) || digest.VerifyExtension("", 0, none, n, nil) {
			t.Errorf("the beginning of none of %d entries, with roots that are no digests", n)
		}
	}
	for _, n := range []int{-1, math.MinInt} {
		if digest.VerifyExtension(none, 0, none, n, nil) || digest.VerifyExtension(none, n, none, n, nil) {
			t.Errorf("a list of %d entries", n)
		}
	}
}

// P2.1: a list begins with all of it, whatever digest its root is.
func TestBeginningOfAll(t *testing.T) {
	zero := strings.Repeat("\x00", 32)
	for _, n := range []int{1, 2, 3, 8, math.MaxInt} {
		for _, root := range []string{zero, digest.Root(nil), digest.Leaf("a")} {
			if !digest.VerifyExtension(root, n, root, n, nil) {
				t.Errorf("all of %d entries with the root %x", n, root)
			}
			if digest.VerifyExtension(root, n, root, n, []string{root}) || digest.VerifyExtension(root, n, digest.Leaf(root), n, nil) {
				t.Errorf("all of %d entries with the root %x, with another proof or root", n, root)
			}
		}
		if digest.VerifyExtension("", n, "", n, nil) || digest.VerifyExtension(zero+"x", n, zero+"x", n, nil) {
			t.Errorf("all of %d entries with a root that is no digest", n)
		}
	}
}

// P2.1: numbers of entries up to the greatest one, with m at both ends, at halves and elsewhere.
func TestVerifyExtensionHuge(t *testing.T) {
	r := rand.New(rand.NewSource(6))
	for _, n := range hugeNumbers() {
		half := plainHalf(n)
		for _, m := range []int{1, 2, half - 1, half, half / 2, 1 + r.Intn(n-1), n - 2, n - 1} {
			accepted := 0
			for length := range 70 {
				proof, old := digests(r, length), randomString(r, 32)
				first, all, ok := plainValues(old, m, n, proof, true)
				if !ok {
					first, all = old, randomString(r, 32)
				}
				if got, want := digest.VerifyExtension(first, m, all, n, proof), plainVerifyExtension(first, m, all, n, proof); got != want || got != ok {
					t.Fatalf("VerifyExtension of %d of %d with %d elements: %t, want %t", m, n, length, got, want)
				}
				if ok {
					accepted++
				}
			}
			if accepted != 1 {
				t.Fatalf("VerifyExtension of %d of %d: %d lengths are accepted", m, n, accepted)
			}
		}
	}
}
