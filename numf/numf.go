// Package numf is layer 1: numbers in a header's fields: see shared/doc/01-numf.md.
package numf

import (
	"bytes"

	"thwart/api"
)

const (
	shortWidth = 8
	longWidth  = 12
	mostDigits = 20

	// What a field in base 256 begins by.
	fromNought  = 0x80
	belowNought = 0xFF
)

// Put is a number laid.
func Put(n int64, width int) ([]byte, api.Errno) {
	if !isWidth(width) {
		return nil, api.ErrArg
	}
	if Plain(n, width) {
		digits, e := Octal(n, width-1)
		return append(digits, 0), e
	}
	return putBytes(n, width)
}

// Get is the number of a field.
func Get(b []byte) (int64, api.Errno) {
	if !isWidth(len(b)) {
		return 0, api.ErrArg
	}
	switch b[0] {
	case fromNought:
		goto rising
	case belowNought:
		goto falling
	}
	return getOctal(b)
rising:
	return getBytes(b[1:], 0)
falling:
	return getBytes(b[1:], -1)
}

// Octal are a number's octal digits.
func Octal(n int64, digits int) ([]byte, api.Errno) {
	if digits < 1 || digits > mostDigits {
		return nil, api.ErrArg
	}
	if n < 0 || n > Most(digits) {
		return nil, api.ErrBig
	}
	b := make([]byte, digits)
	for i := digits - 1; i >= 0; i-- {
		b[i] = '0' + byte(n&7)
		n >>= 3
	}
	return b, api.OK
}

// Exact tells whether a field is just as it is laid.
func Exact(b []byte) bool {
	n, e := Get(b)
	if e != api.OK {
		return false
	}
	laid, e := Put(n, len(b))
	return e == api.OK && bytes.Equal(b, laid)
}

// Plain tells whether a number is laid by octal digits.
func Plain(n int64, width int) bool {
	return isWidth(width) && n >= 0 && n <= Most(width-1)
}

// Most is the greatest number of so many octal digits.
func Most(digits int) int64 {
	digits = min(max(digits, 0), mostDigits)
	return int64(1)<<(3*digits) - 1
}

func isWidth(width int) bool {
	return width == shortWidth || width == longWidth
}

// putBytes lays a number in base 256.
func putBytes(n int64, width int) ([]byte, api.Errno) {
	b := make([]byte, width)
	// An int64 that is shifted keeps its sign: what is left of it, once all
	// bytes are out, is 0 or -1 just if the number fits them.
	sign := n >> 63
	b[0] = fromNought
	if sign < 0 {
		b[0] = belowNought
	}
	for i := width - 1; i > 0; i-- {
		b[i] = byte(n)
		n >>= 8
	}
	if n != sign {
		return nil, api.ErrBig
	}
	return b, api.OK
}

// getBytes reads a number in base 256; sign is 0, or -1 of one below 0.
func getBytes(b []byte, sign int64) (int64, api.Errno) {
	n := sign
	for _, c := range b {
		// One byte more fits only while the upper nine bits are the sign's.
		if n>>55 != sign {
			return 0, api.ErrBig
		}
		n = n<<8 | int64(c)
	}
	return n, api.OK
}

// getOctal reads a number in octal digits. Those of the longest field have 36
// bits: none is too great.
func getOctal(b []byte) (int64, api.Errno) {
	b = bytes.TrimLeft(b, " ")
	var n int64
	digits := 0
	for digits < len(b) && isOctal(b[digits]) {
		n = n<<3 | int64(b[digits]-'0')
		digits++
	}
	if digits == 0 || !isBehind(b[digits:]) {
		return 0, api.ErrForm
	}
	return n, api.OK
}

func isOctal(c byte) bool {
	return c >= '0' && c <= '7'
}

// isBehind tells whether bytes may stand behind the octal digits.
func isBehind(b []byte) bool {
	for _, c := range b {
		if c != 0 && c != ' ' {
			return false
		}
	}
	return true
}
