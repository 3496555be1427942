// Package octet is layer 1: see shared/doc/01-octet.md.
package octet

import (
	"bytes"

	"trunkline/api"
)

// maxWidth is how many bytes the greatest number has.
const maxWidth = 8

// isWidth: can a number stand in n bytes?
func isWidth(n int) bool { return n >= 1 && n <= maxWidth }

// span is the error of n bytes from at on, among size bytes. It subtracts where at and n could add up to more than an int holds.
func span(size, at, n int) api.Errno {
	if at < 0 || at > size || n < 0 {
		return api.ErrArg
	}
	if size-at < n {
		return api.ErrShort
	}
	return api.OK
}

// numberSpan is the error of a number in n bytes from at on, among size bytes.
func numberSpan(size, at, n int) api.Errno {
	if !isWidth(n) {
		return api.ErrArg
	}
	return span(size, at, n)
}

// Num is the number in the n bytes of b from at on.
func Num(b []byte, at, n int) (uint64, api.Errno) {
	if e := numberSpan(len(b), at, n); e != api.OK {
		return 0, e
	}
	v := uint64(0)
	for _, digit := range b[at : at+n] {
		v = v<<8 | uint64(digit)
	}
	return v, api.OK
}

// Bytes is v in n bytes.
func Bytes(v uint64, n int) ([]byte, api.Errno) {
	if !isWidth(n) {
		return nil, api.ErrArg
	}
	out := make([]byte, n)
	for i := n - 1; i >= 0; i-- {
		out[i] = byte(v)
		v >>= 8
	}
	if v != 0 {
		return nil, api.ErrLimit
	}
	return out, api.OK
}

// Set is b with v in the n bytes from at on.
func Set(b []byte, at int, v uint64, n int) ([]byte, api.Errno) {
	if e := numberSpan(len(b), at, n); e != api.OK {
		return nil, e
	}
	digits, e := Bytes(v, n)
	if e != api.OK {
		return nil, e
	}
	out := bytes.Clone(b)
	copy(out[at:], digits)
	return out, api.OK
}

// Cut is the n bytes of b from at on.
func Cut(b []byte, at, n int) ([]byte, api.Errno) {
	if e := span(len(b), at, n); e != api.OK {
		return nil, e
	}
	return bytes.Clone(b[at : at+n]), api.OK
}

// Pad is b with bytes 0 behind it, up to a multiple of to.
func Pad(b []byte, to int) ([]byte, api.Errno) {
	if to < 1 || to > api.MaxPad {
		return nil, api.ErrArg
	}
	size := len(b)
	if over := size % to; over != 0 {
		size += to - over
	}
	out := make([]byte, size)
	copy(out, b)
	return out, api.OK
}
