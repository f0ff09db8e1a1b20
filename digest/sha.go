package digest

import (
	"iter"
	"math/bits"
	"slices"

	"nadir/api"
)

const (
	blockSize  = 64
	lengthSize = 8
	wordSize   = 4
	rounds     = 64
)

// words is the state of a Sum.
type words [api.DigestSize / wordSize]uint32

// roundWords holds the words k(0) to k(63).
var roundWords = [rounds]uint32{
	0x428a2f98, 0x71374491, 0xb5c0fbcf, 0xe9b5dba5, 0x3956c25b, 0x59f111f1, 0x923f82a4, 0xab1c5ed5,
	0xd807aa98, 0x12835b01, 0x243185be, 0x550c7dc3, 0x72be5d74, 0x80deb1fe, 0x9bdc06a7, 0xc19bf174,
	0xe49b69c1, 0xefbe4786, 0x0fc19dc6, 0x240ca1cc, 0x2de92c6f, 0x4a7484aa, 0x5cb0a9dc, 0x76f988da,
	0x983e5152, 0xa831c66d, 0xb00327c8, 0xbf597fc7, 0xc6e00bf3, 0xd5a79147, 0x06ca6351, 0x14292967,
	0x27b70a85, 0x2e1b2138, 0x4d2c6dfc, 0x53380d13, 0x650a7354, 0x766a0abb, 0x81c2c92e, 0x92722c85,
	0xa2bfe8a1, 0xa81a664b, 0xc24b8b70, 0xc76c51a3, 0xd192e819, 0xd6990624, 0xf40e3585, 0x106aa070,
	0x19a4c116, 0x1e376c08, 0x2748774c, 0x34b0bcb5, 0x391c0cb3, 0x4ed8aa4a, 0x5b9cca4f, 0x682e6ff3,
	0x748f82ee, 0x78a5636f, 0x84c87814, 0x8cc70208, 0x90befffa, 0xa4506ceb, 0xbef9a3f7, 0xc67178f2,
}

// sumOf returns the Sum of the string that consists of the parts, without building it.
func sumOf(parts ...string) string {
	length := 0
	for _, part := range parts {
		length += len(part)
	}
	state := words{0x6a09e667, 0xbb67ae85, 0x3c6ef372, 0xa54ff53a, 0x510e527f, 0x9b05688c, 0x1f83d9ab, 0x5be0cd19}
	extended := slices.Concat(parts, []string{padding(length)})
	for block := range blocks(extended...) {
		state = state.after(schedule(block))
	}
	return state.bytes()
}

// padding returns what a string of n bytes is extended by: then it fills its blocks.
func padding(n int) string {
	zeros := (2*blockSize - 1 - lengthSize - n%blockSize) % blockSize
	end := make([]byte, 1+zeros+lengthSize)
	end[0] = 128
	for i := range lengthSize {
		end[1+zeros+i] = byte(8 * uint64(n) >> (8 * (lengthSize - 1 - i)))
	}
	return string(end)
}

// blocks yields the blocks of the string that consists of the parts; bytes that fill no block are left out.
func blocks(parts ...string) iter.Seq[[blockSize]byte] {
	return func(yield func([blockSize]byte) bool) {
		var block [blockSize]byte
		filled := 0
	nextPart:
		for _, part := range parts {
			for {
				n := copy(block[filled:], part)
				part, filled = part[n:], filled+n
				if filled < blockSize {
					continue nextPart
				}
				if !yield(block) {
					return
				}
				filled = 0
			}
		}
	}
}

// schedule returns the words w(0) to w(63) of a block.
func schedule(block [blockSize]byte) [rounds]uint32 {
	var w [rounds]uint32
	for i, b := range block {
		w[i/wordSize] = w[i/wordSize]<<8 | uint32(b)
	}
	for i := blockSize / wordSize; i < rounds; i++ {
		x := rotate(w[i-15], 7) ^ rotate(w[i-15], 18) ^ w[i-15]>>3
		y := rotate(w[i-2], 17) ^ rotate(w[i-2], 19) ^ w[i-2]>>10
		w[i] = w[i-16] + x + w[i-7] + y
	}
	return w
}

// after returns the state after a block with the words w.
func (s words) after(w [rounds]uint32) words {
	a, b, c, d, e, f, g, h := s[0], s[1], s[2], s[3], s[4], s[5], s[6], s[7]
	for i := range rounds {
		t := h + (rotate(e, 6) ^ rotate(e, 11) ^ rotate(e, 25)) + (e&f ^ ^e&g) + roundWords[i] + w[i]
		u := (rotate(a, 2) ^ rotate(a, 13) ^ rotate(a, 22)) + (a&b ^ a&c ^ b&c)
		a, b, c, d, e, f, g, h = t+u, a, b, c, d+t, e, f, g
	}
	return words{s[0] + a, s[1] + b, s[2] + c, s[3] + d, s[4] + e, s[5] + f, s[6] + g, s[7] + h}
}

// bytes returns the words as a digest.
func (s words) bytes() string {
	var all [api.DigestSize]byte
	for i := range all {
		all[i] = byte(s[i/wordSize] >> (8 * (wordSize - 1 - i%wordSize)))
	}
	return string(all[:])
}

func rotate(x uint32, right int) uint32 {
	return bits.RotateLeft32(x, -right)
}
