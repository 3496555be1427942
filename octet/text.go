package octet

import (
	"strconv"
	"strings"

	"trunkline/api"
)

// hexDigits are the digits to the base 16, each at the place of its value.
const hexDigits = "0123456789abcdef"

// Hex is b as digits, two for each byte.
func Hex(b []byte) string {
	out := make([]byte, 0, 2*len(b))
	for _, x := range b {
		out = append(out, hexDigits[x>>4], hexDigits[x&15])
	}
	return string(out)
}

// hexValue is what a letter is worth as a digit to the base 16; false, if it is none.
func hexValue(letter rune) (byte, bool) {
	switch {
	case letter >= '0' && letter <= '9':
		return byte(letter - '0'), true
	case letter >= 'a' && letter <= 'f':
		return byte(letter-'a') + 10, true
	case letter >= 'A' && letter <= 'F':
		return byte(letter-'A') + 10, true
	}
	return 0, false
}

// Unhex is the bytes of which s is the digits; beside an error the place of the letter at which it lies.
func Unhex(s string) ([]byte, int, api.Errno) {
	if len(s) > api.MaxText {
		return nil, 0, api.ErrLimit
	}
	out := make([]byte, 0, len(s)/2)
	place, high := 0, byte(0)
	for _, letter := range s {
		value, ok := hexValue(letter)
		if !ok {
			return nil, place, api.ErrForm
		}
		if place%2 == 0 {
			high = value
		} else {
			out = append(out, high<<4|value)
		}
		place++
	}
	if place%2 != 0 {
		return nil, place, api.ErrShort
	}
	return out, 0, api.OK
}

// addrPoints is how many points the text of an address has.
const addrPoints = 3

// beginning is what has been read of the text of an address.
type beginning struct {
	ahead  uint32 // the numbers that ended with a point
	points int
	number uint32 // the number behind the last point
	begun  bool   // it has a digit
}

// take reads one letter more; false, if no text of an address goes on with it.
func (a *beginning) take(letter rune) bool {
	if letter == '.' {
		return a.takePoint()
	}
	if letter < '0' || letter > '9' {
		return false
	}
	return a.takeDigit(uint32(letter - '0'))
}

func (a *beginning) takePoint() bool {
	if !a.begun || a.points == addrPoints {
		return false
	}
	a.ahead = a.whole()
	a.points++
	a.number, a.begun = 0, false
	return true
}

func (a *beginning) takeDigit(digit uint32) bool {
	leadingZero := a.begun && a.number == 0
	number := a.number*10 + digit
	if leadingZero || number > 255 {
		return false
	}
	a.number, a.begun = number, true
	return true
}

// ends: may the text end here?
func (a *beginning) ends() bool { return a.begun && a.points == addrPoints }

// whole is the numbers read so far as one.
func (a *beginning) whole() uint32 { return a.ahead<<8 | a.number }

// Addr is the address of which s is the text; beside an error the place of the letter at which it lies.
func Addr(s string) (uint32, int, api.Errno) {
	var read beginning
	place := 0
	for _, letter := range s {
		if !read.take(letter) {
			return 0, place, api.ErrForm
		}
		place++
	}
	if !read.ends() {
		return 0, place, api.ErrShort
	}
	return read.whole(), 0, api.OK
}

// AddrText is the text of the address a.
func AddrText(a uint32) string {
	var numbers []string
	for shift := 24; shift >= 0; shift -= 8 {
		numbers = append(numbers, strconv.Itoa(int(a>>shift&255)))
	}
	return strings.Join(numbers, ".")
}
