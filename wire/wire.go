// Package wire is layer 1: numbers as bytes. See shared/doc/01-wire.md.
package wire

import (
	"math/bits"

	"trammel/api"
)

const (
	more       = 0x80       // the bit of a byte that tells of a further one
	low        = 0x7f       // the bits of a byte that are the number's
	tenth      = 9          // how many bytes stand ahead of the tenth: 63 bits of a number, so that one is left
	widest     = 8          // bytes of a number in a fixed row
	polynomial = 0xedb88320 // what the sum is put together with where two bits are unlike
)

// Put tells a number's bytes: seven bits a byte, the lowest first.
func Put(n uint64) []byte {
	size := (bits.Len64(n|1) + 6) / 7 // 0 has a byte, too
	b := make([]byte, size)
	for i := range size {
		b[i] = byte(n>>(7*i)) | more
	}
	b[size-1] &= low
	return b
}

// Get reads a number at a place, and tells the place behind it.
func Get(b []byte, at int) (uint64, int, api.Errno) {
	if at < 0 || at > len(b) {
		return 0, 0, api.ErrArg
	}
	var n uint64
	for i := range len(b) - at {
		c := b[at+i]
		if i == tenth && c > 1 || i > 0 && c == 0 {
			return 0, 0, api.ErrForm
		}
		n |= uint64(c&low) << (7 * i)
		if c < more {
			return n, at + i + 1, api.OK
		}
	}
	return 0, 0, api.ErrShort
}

// PutInt tells a signed number's bytes.
func PutInt(n int64) []byte {
	// The sign's bit comes lowest, so that small numbers are short on both sides of 0; -2n - 1 is 2n with all bits turned.
	return Put(uint64(n<<1 ^ n>>63))
}

// GetInt reads a signed number.
func GetInt(b []byte, at int) (int64, int, api.Errno) {
	u, next, err := Get(b, at)
	n := int64(u >> 1)
	if u&1 == 1 {
		n = ^n
	}
	return n, next, err
}

// Fixed tells a number in so many bytes, the lowest first.
func Fixed(n uint64, size int) []byte {
	if !isSize(size) {
		return nil
	}
	b := make([]byte, size)
	for i := range size {
		b[i] = byte(n >> (8 * i))
	}
	return b
}

// Wide reads a number of so many bytes.
func Wide(b []byte, at, size int) (uint64, int, api.Errno) {
	if !isSize(size) || at < 0 || at > len(b) {
		return 0, 0, api.ErrArg
	}
	if size > len(b)-at {
		return 0, 0, api.ErrShort
	}
	var n uint64
	for i := range size {
		n |= uint64(b[at+i]) << (8 * i)
	}
	return n, at + size, api.OK
}

func isSize(size int) bool { return size >= 1 && size <= widest }

// Sum tells the sum of bytes.
func Sum(b ...byte) uint32 {
	sum := ^uint32(0)
	for _, c := range b {
		for i := range 8 {
			sum = addBit(sum, uint32(c>>i))
		}
	}
	return ^sum
}

// addBit looks at bit's lowest bit alone. It multiplies where it could branch: no processor foresees a sum's bits, and images are long.
func addBit(sum, bit uint32) uint32 {
	unlike := (sum ^ bit) & 1
	return sum>>1 ^ unlike*polynomial
}
