// Package crc24 computes CRC-24 checksums (as in OpenPGP). See shared/doc/02-crc24.md.
package crc24

import "bytes"

// Size is the number of bytes of a checksum.
const Size = 3

const (
	first = 0xb704ce
	most  = 0xffffff
	// The bit that is shifted out is part of the polynomial, so that combining them clears it.
	poly = 0x1864cfb
)

// On continues with b from the checksum of the preceding data.
func On(sum uint32, b []byte) uint32 {
	shift := func(register uint32) uint32 {
		register <<= 1
		if register > most {
			register ^= poly
		}
		return register
	}
	sum &= most
	for _, c := range b {
		sum ^= uint32(c) << 16
		for range 8 {
			sum = shift(sum)
		}
	}
	return sum
}

// Sum returns the checksum of the concatenation of all parts.
func Sum(parts ...[]byte) uint32 {
	sum := uint32(first)
	for _, b := range parts {
		sum = On(sum, b)
	}
	return sum
}

// Seal returns b followed by its checksum, in new memory.
func Seal(b []byte) []byte {
	sealed := make([]byte, 0, len(b)+Size)
	sealed = append(sealed, b...)
	sum := Sum(b)
	return append(sealed, byte(sum>>16), byte(sum>>8), byte(sum))
}

// Open returns what is before the checksum, in new memory, and whether the checksum fits.
func Open(b []byte) ([]byte, bool) {
	if len(b) < Size {
		return nil, false
	}
	data, end := b[:len(b)-Size], b[len(b)-Size:]
	if !Fits(data, uint32(end[0])<<16|uint32(end[1])<<8|uint32(end[2])) {
		return nil, false
	}
	return bytes.Clone(data), true
}

// Fits reports whether sum is the checksum of b.
func Fits(b []byte, sum uint32) bool { return Sum(b) == sum }
