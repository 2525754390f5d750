// Package word has the machine's numbers, put together.
package word

import "sacristy/api"

const (
	wordBits  = 64
	wordBytes = 8
)

// Sign is the word that leaves what v leaves by 2^bits, and is, read as signed, of that many bits.
func Sign(v uint64, bits int) (uint64, api.Errno) {
	if bits < 1 || bits > wordBits {
		return 0, api.ErrArg
	}
	above := wordBits - bits
	return uint64(int64(v<<above) >> above), api.OK
}

// Fits tells whether v is a signed number of that many bits.
func Fits(v int64, bits int) bool {
	w, e := Sign(uint64(v), bits)
	return e == api.OK && int64(w) == v
}

// Bytes is the lowest n bytes of v, the lowest one first.
func Bytes(v uint64, n int) (string, api.Errno) {
	if n < 1 || n > wordBytes {
		return "", api.ErrArg
	}
	var b [wordBytes]byte
	for k := range n {
		b[k] = byte(v >> (8 * k))
	}
	return string(b[:n]), api.OK
}

// Word is the number of the bytes of s, the lowest one first.
func Word(s string) (uint64, api.Errno) {
	if len(s) < 1 || len(s) > wordBytes {
		return 0, api.ErrArg
	}
	var v uint64
	for k := range len(s) {
		v |= uint64(s[k]) << (8 * k)
	}
	return v, api.OK
}
