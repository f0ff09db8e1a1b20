package digest_test

import (
	"math/rand"
	"slices"
	"testing"

	"nadir/digest"
)

// oddStrings are strings that are no digests, though Node takes them.
func oddStrings(r *rand.Rand) []string {
	return []string{"", "x", randomString(r, 31), randomString(r, 33), randomString(r, 64)}
}

// P2.1, P2.3: an element that is no digest is refused, even if the value of the proof is the root.
func TestVerifyOddElements(t *testing.T) {
	r := rand.New(rand.NewSource(7))
	for n := 2; n <= 9; n++ {
		for i := range n {
			length := len(plainProof(list(n), i))
			for at := range length {
				for _, odd := range oddStrings(r) {
					proof := digests(r, length)
					if value, ok := plainValue(n, i, "s", proof); !ok || !digest.Verify(value, n, i, "s", proof) {
						t.Fatalf("a proof of %d of %d is refused", i, n)
					}
					proof[at] = odd
					if value, ok := plainValue(n, i, "s", proof); !ok || digest.Verify(value, n, i, "s", proof) {
						t.Fatalf("a proof of %d of %d is accepted, whose element %d has %d bytes", i, n, at, len(odd))
					}
				}
			}
		}
	}
}

// P2.1, P2.4: so is one of an extension, and a beginning whose root is no digest.
func TestVerifyExtensionOddElements(t *testing.T) {
	r := rand.New(rand.NewSource(8))
	for n := 2; n <= 9; n++ {
		for m := 1; m < n; m++ {
			length := len(plainExtension(list(n), m))
			given := digests(r, length+1)
			for at := range given {
				for _, odd := range oddStrings(r) {
					changed := slices.Clone(given)
					changed[at] = odd
					for _, all := range [][]string{given, changed} {
						old, root, ok := plainValues(all[length], m, n, all[:length], true)
						// Unless the beginning is a list of the tree, its root is computed from the elements alone, and what was given for it does not count.
						want := plainDigests(old, root) && plainDigests(all[:length]...)
						if got := digest.VerifyExtension(old, m, root, n, all[:length]); !ok || got != want {
							t.Fatalf("VerifyExtension of %d of %d, with %d bytes at %d: %t, want %t", m, n, len(odd), at, got, want)
						}
					}
				}
			}
		}
	}
}
