// Package wire is layer 1: it encodes integers and strings as bytes, decodes them, and computes checksums. See shared/doc/01-wire.md.
package wire

import (
	"strings"

	"nadir/api"
)

// PutInt returns the encoding of n.
func PutInt(n int) (string, api.Errno) {
	if n < -api.MaxInt || n > api.MaxInt {
		return "", api.ErrWire
	}
	return encode(n), api.OK
}

// Int returns the integer whose encoding begins at the offset at of s, and the offset after it.
func Int(s string, at int) (int, int, api.Errno) {
	if !isOffset(s, at) {
		return 0, 0, api.ErrArg
	}
	z, next, ok := join(s, at)
	if !ok || z > maxFolded {
		return 0, 0, api.ErrWire
	}
	return unfold(z), next, api.OK
}

// PutString returns the encoding of s.
func PutString(s string) (string, api.Errno) {
	if len(s) > api.MaxString {
		return "", api.ErrWire
	}
	return encode(len(s)) + s, api.OK
}

// String returns the string whose encoding begins at the offset at of s, and the offset after it.
func String(s string, at int) (string, int, api.Errno) {
	length, start, err := Int(s, at)
	if err != api.OK {
		return "", 0, err
	}
	if length < 0 || length > api.MaxString || length > len(s)-start {
		return "", 0, api.ErrWire
	}
	end := start + length
	// A part of s would keep all of s in memory for as long as it is held.
	return strings.Clone(s[start:end]), end, api.OK
}

func isOffset(s string, at int) bool {
	return at >= 0 && at <= len(s)
}
