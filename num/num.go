// Package num: numbers as bytes: see doc/01-num.md.
package num

import (
	"slices"

	"recension/api"
)

// GetText's bound alone: PutText writes whatever it is given.
const longestText = 1 << 16

// Nine bytes hold 63 bits: the tenth has room for the 64th and for no other.
const (
	lastByte    = 9
	lastByteMax = 1
)

// Put answers b and the number n behind it, in new memory.
func Put(b []byte, n int64) []byte {
	return slices.Concat(b, digits(n))
}

// Get answers the number at b's beginning and how many bytes it takes.
func Get(b []byte) (int64, int, api.Errno) {
	var u uint64
	for i, c := range b {
		if i == lastByte && c > lastByteMax {
			return 0, 0, api.ErrForm
		}
		u |= uint64(c&127) << (7 * uint(i))
		if c >= 128 {
			continue
		}
		// A highest byte of 0 adds nothing: the number would go without it.
		if c == 0 && i > 0 {
			return 0, 0, api.ErrForm
		}
		return signed(u), i + 1, api.OK
	}
	return 0, 0, api.ErrMore
}

// PutText answers b, the length of s and s behind it, in new memory.
func PutText(b []byte, s string) []byte {
	return slices.Concat(b, digits(int64(len(s))), []byte(s))
}

// GetText answers the text at b's beginning and how many bytes it takes, with those of its length.
func GetText(b []byte) (string, int, api.Errno) {
	n, at, err := Get(b)
	if err != api.OK {
		return "", 0, err
	}
	if n < 0 || n > longestText {
		return "", 0, api.ErrForm
	}
	rest := b[at:]
	if int64(len(rest)) < n {
		return "", 0, api.ErrMore
	}
	return string(rest[:n]), at + int(n), api.OK
}

func digits(n int64) []byte {
	var l []byte
	u := unsigned(n)
	for ; u >= 128; u >>= 7 {
		l = append(l, byte(u&127)|128)
	}
	return append(l, byte(u))
}

// unsigned is 2 n, or -2 n - 1 of n below 0, by bits: a product would wrap at the least int64.
func unsigned(n int64) uint64 {
	u := uint64(n) << 1
	if n < 0 {
		return ^u
	}
	return u
}

// signed takes back what unsigned did.
func signed(u uint64) int64 {
	half := int64(u >> 1)
	if u&1 == 1 {
		return ^half
	}
	return half
}
