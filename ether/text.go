package ether

import (
	"strings"

	"trunkline/api"
	"trunkline/octet"
)

const (
	macText = 3*macLen - 1 // letters of the text of an address
	between = ':'
)

// isBetween: does a : stand at a place of the text of an address?
func isBetween(place int) bool { return place%3 == 2 }

// MacText is the text of a card's address.
func MacText(mac uint64) (string, api.Errno) {
	b, e := octet.Bytes(mac, macLen)
	if e != api.OK {
		return "", api.ErrArg
	}
	var texts []string
	for _, x := range b {
		texts = append(texts, octet.Hex([]byte{x}))
	}
	return strings.Join(texts, string(between)), api.OK
}

// digit is what a letter is worth as a digit to the base 16; false, if it is none.
func digit(letter rune) (uint64, bool) {
	b, _, e := octet.Unhex("0" + string(letter))
	if e != api.OK {
		return 0, false
	}
	return uint64(b[0]), true
}

// goOn is an address and the letter of its text at a place behind it; false, if no text of an address goes on with it.
func goOn(mac uint64, place int, letter rune) (uint64, bool) {
	if place >= macText {
		return 0, false
	}
	if isBetween(place) {
		return mac, letter == between
	}
	value, ok := digit(letter)
	return mac<<4 | value, ok
}

// Mac is the address of a text; beside an error the place of the letter at which it lies.
func Mac(s string) (uint64, int, api.Errno) {
	mac, place := uint64(0), 0
	for _, letter := range s {
		longer, ok := goOn(mac, place, letter)
		if !ok {
			return 0, place, api.ErrForm
		}
		mac = longer
		place++
	}
	if place < macText {
		return 0, place, api.ErrShort
	}
	return mac, 0, api.OK
}
