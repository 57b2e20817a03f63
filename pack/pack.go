// Package pack has numbers and texts in bytes: it is layer 1, of the document's chapter 01-pack.
package pack

import (
	"fingerpost/api"
)

const (
	widest  = 8   // bytes of a uint64
	longest = 255 // bytes of a blob: as many as one byte can count
	lastVar = 9   // the place of a var's tenth byte, which holds the one bit left of 64
	more    = 128 // the bit of a var's byte that says that another one follows
)

// Num is the lowest bytes of n, as many as bytes says (at least 0, at most 8), the highest one first.
func Num(n uint64, bytes int) string {
	bytes = min(max(bytes, 0), widest)
	out := make([]byte, bytes)
	for i := bytes - 1; i >= 0; i-- {
		out[i] = byte(n)
		n >>= 8
	}
	return string(out)
}

// Take reads a number that Num wrote in so many bytes, and answers it and what follows it.
func Take(s string, bytes int) (uint64, string, api.Errno) {
	if bytes < 0 || bytes > widest {
		return 0, "", api.ErrArg
	}
	if len(s) < bytes {
		return 0, "", api.ErrShort
	}
	var n uint64
	for i := range bytes {
		n = n<<8 | uint64(s[i])
	}
	return n, s[bytes:], api.OK
}

// Rest tells ErrForm if anything is left of a text that should be over.
func Rest(s string) api.Errno {
	if s != "" {
		return api.ErrForm
	}
	return api.OK
}

// Blob is s behind a byte that says how long it is.
func Blob(s string) (string, api.Errno) {
	if len(s) > longest {
		return "", api.ErrLong
	}
	return Num(uint64(len(s)), 1) + s, api.OK
}

// Unblob reads a text that Blob wrote, and answers it and what follows it.
func Unblob(s string) (string, string, api.Errno) {
	n, rest, err := Take(s, 1)
	if err != api.OK {
		return "", "", err
	}
	long := int(n)
	if len(rest) < long {
		return "", "", api.ErrShort
	}
	return rest[:long], rest[long:], api.OK
}

// Flip is s with one bit turned; the highest bit of each byte is its first one.
func Flip(s string, bit int) string {
	// A division rounds toward 0, so -1 to -7 would else be taken for bits of the first byte.
	if bit < 0 || bit/8 >= len(s) {
		return s
	}
	out := []byte(s)
	out[bit/8] ^= 128 >> (bit % 8)
	return string(out)
}

// Var is n with seven bits a byte, the lowest ones first, in as few bytes as can be.
func Var(n uint64) string {
	var out []byte
	for n >= more {
		out = append(out, byte(n)|more)
		n >>= 7
	}
	return string(append(out, byte(n)))
}

// Unvar reads a number that Var wrote, and answers it and what follows it.
func Unvar(s string) (uint64, string, api.Errno) {
	var n uint64
	used, err := 0, api.ErrShort
bytes:
	for i := range len(s) {
		b := s[i]
		// The tenth byte is looked at first: above 1 its bits would leave a uint64.
		if i == lastVar && b > 1 {
			err = api.ErrLong
			break bytes
		}
		n |= uint64(b&^more) << (7 * i)
		switch {
		case b >= more:
			continue bytes
		case b == 0 && i > 0: // Var would have ended a byte sooner
			err = api.ErrForm
			break bytes
		default:
			used, err = i+1, api.OK
			break bytes
		}
	}
	if err != api.OK {
		return 0, "", err
	}
	return n, s[used:], api.OK
}

// Zig is a number without a sign for each int, small where the int is near 0.
func Zig(n int) uint64 {
	if n >= 0 {
		return 2 * uint64(n)
	}
	// The least int has no opposite, but the one above it has, and 2 * -n - 1 is 2 * -(n+1) + 1.
	return 2*uint64(-(n+1)) + 1
}

// Zag is the int of which u is Zig.
func Zag(u uint64) int {
	half := int(u / 2)
	if u%2 == 1 {
		return -half - 1
	}
	return half
}
