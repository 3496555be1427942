// Package sums is layer 2: see shared/doc/02-sums.md.
package sums

import (
	"bytes"
	"math/bits"

	"trunkline/api"
	"trunkline/octet"
)

const (
	crcBits = 0x82f63b78 // what the register is xor when a bit went out
	sumAt   = 8          // where a packet's sum stands
	sumSize = 4          // in how many bytes
)

// through hands a register on from byte to byte: step says what it is behind each.
func through(b []byte, reg uint32, step func(reg uint32, x byte) uint32) uint32 {
	for _, x := range b {
		reg = step(reg, x)
	}
	return reg
}

// Crc is the CRC-32C of b.
func Crc(b []byte) uint32 {
	reg := through(b, ^uint32(0), func(reg uint32, x byte) uint32 {
		for i := range 8 {
			differs := (reg ^ uint32(x)>>i) & 1
			// A product in place of an if: the bits are as good as chance, and a branch on them is slow.
			reg = reg>>1 ^ crcBits*differs
		}
		return reg
	})
	return ^reg
}

// Stamp is b with its sum in it.
func Stamp(b []byte) ([]byte, api.Errno) {
	if len(b) < sumAt+sumSize {
		return nil, api.ErrShort
	}
	blank, _ := octet.Set(b, sumAt, 0, sumSize) // no error: the length was asked for above
	// The sum stands with its lowest byte first, octet's numbers with the highest.
	sum := bits.ReverseBytes32(Crc(blank))
	return octet.Set(blank, sumAt, uint64(sum), sumSize)
}

// Stamped: has b its sum in it?
func Stamped(b []byte) bool {
	stamped, e := Stamp(b)
	return e == api.OK && bytes.Equal(stamped, b)
}

// around adds what goes beyond 16 bits at the other end, as long as something does.
func around(sum uint32) uint32 {
	for sum > 0xffff {
		sum = sum>>16 + sum&0xffff
	}
	return sum
}

// Net is the Internet's sum of b.
func Net(b []byte) uint16 {
	shift := 0
	sum := through(b, 0, func(reg uint32, x byte) uint32 {
		// The bytes of a number are added one by one, so that behind an odd one the 0 need not stand there.
		shift = 8 - shift
		return around(reg + uint32(x)<<shift)
	})
	return ^uint16(sum)
}

// Swap is a sum of Net when one of its numbers, old, becomes is.
func Swap(sum, old, is uint16) uint16 {
	return ^uint16(around(uint32(^sum) + uint32(^old) + uint32(is)))
}
