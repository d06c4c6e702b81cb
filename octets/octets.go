// Package octets is layer 1, strings of bytes: see shared/doc/01-octets.md.
package octets

import (
	"bytes"
	"math"

	"smartcard/api"
)

const (
	digits    = "0123456789abcdef"
	mark      = 0x80 // the byte with which padding begins
	maxNumber = 8    // bytes of a number
)

// Hex returns the bytes as lower-case hexadecimal digits.
func Hex(b []byte) string {
	text := make([]byte, 0, 2*len(b))
	for _, x := range b {
		text = append(text, digits[x>>4], digits[x&0x0f])
	}
	return string(text)
}

// Parse returns the bytes that hexadecimal digits, of either case, denote.
func Parse(s string) ([]byte, api.Errno) {
	if len(s)%2 != 0 {
		return nil, api.ErrForm
	}
	b := make([]byte, len(s)/2)
	for i, c := range s {
		v, ok := digit(c)
		if !ok {
			return nil, api.ErrForm
		}
		b[i/2] = b[i/2]<<4 | v
	}
	return b, api.OK
}

// digit returns the four bits that a hexadecimal digit denotes.
func digit(c rune) (byte, bool) {
	switch {
	case c >= '0' && c <= '9':
		return byte(c - '0'), true
	case c >= 'a' && c <= 'f':
		return byte(c - 'a' + 10), true
	case c >= 'A' && c <= 'F':
		return byte(c - 'A' + 10), true
	}
	return 0, false
}

// Compare compares byte by byte; a beginning of another string comes before it.
func Compare(a, b []byte) int { return bytes.Compare(a, b) }

// Xor returns the exclusive or of two strings of the same length.
func Xor(a, b []byte) ([]byte, api.Errno) {
	if len(a) != len(b) {
		return nil, api.ErrArg
	}
	x := make([]byte, len(a))
	for i := range x {
		x[i] = a[i] ^ b[i]
	}
	return x, api.OK
}

// Pad appends the byte 80 and as few bytes 00 as are necessary for a multiple of n bytes.
func Pad(b []byte, n int) ([]byte, api.Errno) {
	if n < 1 || n > api.MaxData {
		return nil, api.ErrArg
	}
	padded := make([]byte, (len(b)/n+1)*n)
	copy(padded, b)
	padded[len(b)] = mark
	return padded, api.OK
}

// Unpad removes what Pad has appended.
func Unpad(b []byte) ([]byte, api.Errno) {
	last := len(b) - 1
	for last >= 0 && b[last] == 0 {
		last--
	}
	if last < 0 || b[last] != mark {
		return nil, api.ErrForm
	}
	return bytes.Clone(b[:last]), api.OK
}

// Put returns a number as a given number of bytes, the most significant one first.
func Put(n, width int) ([]byte, api.Errno) {
	if width < 1 || width > maxNumber {
		return nil, api.ErrArg
	}
	if n < 0 || uint64(n)>>(8*width) != 0 {
		return nil, api.ErrRange
	}
	b := make([]byte, width)
	for i := range b {
		b[width-1-i] = byte(n >> (8 * i))
	}
	return b, api.OK
}

// Get returns the number that bytes denote.
func Get(b []byte) (int, api.Errno) {
	if len(b) > maxNumber {
		return 0, api.ErrLong
	}
	var n uint64
	for _, x := range b {
		n = n<<8 | uint64(x)
	}
	if n > math.MaxInt64 {
		return 0, api.ErrRange
	}
	return int(n), api.OK
}

// Join returns strings one after the other.
func Join(l ...[]byte) []byte { return bytes.Join(l, nil) }

// Split divides a string into pieces of n bytes, the last of which may be shorter.
func Split(b []byte, n int) ([][]byte, api.Errno) {
	if n < 1 {
		return nil, api.ErrArg
	}
	var pieces [][]byte
	for len(b) > 0 {
		size := min(n, len(b))
		pieces = append(pieces, bytes.Clone(b[:size]))
		b = b[size:]
	}
	return pieces, api.OK
}

// Begins reports whether a string begins with another one.
func Begins(b, p []byte) bool { return bytes.HasPrefix(b, p) }
