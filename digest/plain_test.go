package digest_test

import (
	"crypto/sha256"
	"math/bits"
	"math/rand"
	"strconv"
)

// The functions of this file follow the words of the chapter one by one, with the SHA-256 of Go's library.

func plainSum(parts ...string) string {
	all := []byte{}
	for _, s := range parts {
		all = append(all, s...)
	}
	sum := sha256.Sum256(all)
	return string(sum[:])
}

func plainLeaf(s string) string    { return plainSum("\x00", s) }
func plainNode(a, b string) string { return plainSum("\x01", a, b) }

// plainHalf is the greatest power of two that is less than n, found by doubling.
func plainHalf(n int) int {
	k := 1
	for k < n-k {
		k *= 2
	}
	return k
}

func plainRoot(l []string) string {
	if len(l) == 0 {
		return plainSum("")
	}
	if len(l) == 1 {
		return plainLeaf(l[0])
	}
	k := plainHalf(len(l))
	return plainNode(plainRoot(l[:k]), plainRoot(l[k:]))
}

func plainProof(l []string, i int) []string {
	if len(l) == 1 {
		return nil
	}
	k := plainHalf(len(l))
	if i < k {
		return append(plainProof(l[:k], i), plainRoot(l[k:]))
	}
	return append(plainProof(l[k:], i-k), plainRoot(l[:k]))
}

func plainExtension(l []string, m int) []string {
	if m == 0 || m == len(l) {
		return nil
	}
	return plainPart(l, m, true)
}

func plainPart(l []string, m int, whole bool) []string {
	if m == len(l) {
		if whole {
			return nil
		}
		return []string{plainRoot(l)}
	}
	k := plainHalf(len(l))
	if m <= k {
		return append(plainPart(l[:k], m, whole), plainRoot(l[k:]))
	}
	return append(plainPart(l[k:], m-k, false), plainRoot(l[:k]))
}

func plainDigests(l ...string) bool {
	for _, s := range l {
		if len(s) != 32 {
			return false
		}
	}
	return true
}

func plainVerify(root string, n, i int, s string, proof []string) bool {
	if i < 0 || i > n-1 || !plainDigests(proof...) {
		return false
	}
	value, ok := plainValue(n, i, s, proof)
	return ok && value == root
}

func plainValue(n, i int, s string, proof []string) (string, bool) {
	if n == 1 {
		return plainLeaf(s), len(proof) == 0
	}
	if len(proof) == 0 {
		return "", false
	}
	k := plainHalf(n)
	rest, x := proof[:len(proof)-1], proof[len(proof)-1]
	if i < k {
		value, ok := plainValue(k, i, s, rest)
		return plainNode(value, x), ok
	}
	value, ok := plainValue(n-k, i-k, s, rest)
	return plainNode(x, value), ok
}

func plainVerifyExtension(old string, m int, root string, n int, proof []string) bool {
	if m < 0 || m > n || !plainDigests(old, root) || !plainDigests(proof...) {
		return false
	}
	if m == 0 {
		return len(proof) == 0 && old == plainSum("")
	}
	if m == n {
		return len(proof) == 0 && old == root
	}
	first, all, ok := plainValues(old, m, n, proof, true)
	return ok && first == old && all == root
}

func plainValues(old string, m, n int, proof []string, whole bool) (string, string, bool) {
	if m == n && whole {
		return old, old, len(proof) == 0
	}
	if len(proof) == 0 {
		return "", "", false
	}
	if m == n {
		return proof[0], proof[0], len(proof) == 1
	}
	k := plainHalf(n)
	rest, x := proof[:len(proof)-1], proof[len(proof)-1]
	if m <= k {
		first, all, ok := plainValues(old, m, k, rest, whole)
		return first, plainNode(all, x), ok
	}
	first, all, ok := plainValues(old, m-k, n-k, rest, false)
	return plainNode(x, first), plainNode(x, all), ok
}

// list is n different entries.
func list(n int) []string {
	l := make([]string, n)
	for i := range l {
		l[i] = "entry " + strconv.Itoa(i)
	}
	return l
}

// digests is n digests that are those of nothing else.
func digests(r *rand.Rand, n int) []string {
	l := make([]string, n)
	for i := range l {
		l[i] = randomString(r, 32)
	}
	return l
}

func randomString(r *rand.Rand, n int) string {
	b := make([]byte, n)
	r.Read(b)
	return string(b)
}

// binaryDigits is the number of binary digits of n.
func binaryDigits(n int) int {
	return bits.Len(uint(n))
}
