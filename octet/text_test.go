package octet_test

import (
	"bytes"
	"encoding/hex"
	"math"
	"net/netip"
	"regexp"
	"strings"
	"testing"
	"unicode/utf8"

	"trunkline/api"
	"trunkline/octet"
)

// P1.3, Hex: two digits for each byte, the higher half first.
func TestHex(t *testing.T) {
	for i := range 256 {
		b := []byte{byte(i)}
		if s := octet.Hex(b); s != hex.EncodeToString(b) {
			t.Errorf("%d: %q", i, s)
		}
	}
	if s := octet.Hex([]byte{0xab, 7, 0, 0xff}); s != "ab0700ff" {
		t.Errorf("four bytes: %q", s)
	}
	if s := octet.Hex(nil); s != "" {
		t.Errorf("nil: %q", s)
	}
	if s := octet.Hex(make([]byte, api.MaxText)); s != strings.Repeat("00", api.MaxText) {
		t.Errorf("many bytes: %d digits", len(s))
	}
}

// wantUnhex holds an answer of Unhex against what is asked.
func wantUnhex(t *testing.T, s string, want []byte, wantAt int, wantErr api.Errno) {
	t.Helper()
	b, at, e := octet.Unhex(s)
	if e != wantErr || at != wantAt || !bytes.Equal(b, want) {
		t.Errorf("%.40q: % x, %d, error %d; want % x, %d, error %d", s, b, at, e, want, wantAt, wantErr)
	}
}

// P1.3, Unhex: digits, great ones too, letters that are none, and an odd one.
func TestUnhex(t *testing.T) {
	wantUnhex(t, "", nil, 0, api.OK)
	wantUnhex(t, "ab07", []byte{0xab, 7}, 0, api.OK)
	wantUnhex(t, "0123456789abcdef", []byte{1, 0x23, 0x45, 0x67, 0x89, 0xab, 0xcd, 0xef}, 0, api.OK)
	wantUnhex(t, "ABCDEF", []byte{0xab, 0xcd, 0xef}, 0, api.OK)
	wantUnhex(t, "aBfF", []byte{0xab, 0xff}, 0, api.OK)
	wantUnhex(t, "7", nil, 1, api.ErrShort)
	wantUnhex(t, "abc", nil, 3, api.ErrShort)
	wantUnhex(t, "0ä", nil, 1, api.ErrForm)
	wantUnhex(t, "ä0", nil, 0, api.ErrForm)
	wantUnhex(t, "00g0", nil, 2, api.ErrForm)
	wantUnhex(t, "00 ", nil, 2, api.ErrForm)
	wantUnhex(t, "0x00", nil, 1, api.ErrForm)
	wantUnhex(t, "g", nil, 0, api.ErrForm)
	wantUnhex(t, "000g", nil, 3, api.ErrForm)
	wantUnhex(t, "xäx", nil, 0, api.ErrForm)
	wantUnhex(t, "ab\xff", nil, 2, api.ErrForm)
	wantUnhex(t, "a\xc3", nil, 1, api.ErrForm)
	wantUnhex(t, "abcd\xe2\x82", nil, 4, api.ErrForm)
	wantUnhex(t, "ab\x00", nil, 2, api.ErrForm)
	wantUnhex(t, "a\ufffd", nil, 1, api.ErrForm)
	wantUnhex(t, "0\U0001f600", nil, 1, api.ErrForm)
	wantUnhex(t, "0\u0663", nil, 1, api.ErrForm) // a digit of another script
	wantUnhex(t, "0\uff41", nil, 1, api.ErrForm) // a wide a
}

// P1.3, Unhex: each letter by itself is a digit or none; those whose low bits are a digit's are none.
func TestUnhexOfEachLetter(t *testing.T) {
	for r := rune(0); r < 0x3000; r++ {
		s := string(r)
		value := strings.IndexRune("0123456789abcdef", r)
		if value < 0 {
			value = strings.IndexRune("0123456789ABCDEF", r)
		}
		if value >= 0 {
			wantUnhex(t, "0"+s, []byte{byte(value)}, 0, api.OK)
			wantUnhex(t, s+"0", []byte{byte(value << 4)}, 0, api.OK)
		} else {
			wantUnhex(t, "0"+s, nil, 1, api.ErrForm)
			wantUnhex(t, s+"0", nil, 0, api.ErrForm)
		}
	}
	for x := 0x80; x < 0x100; x++ {
		wantUnhex(t, "00"+string([]byte{byte(x)}), nil, 2, api.ErrForm)
	}
}

// P1.3, Unhex: texts of MaxText bytes, and one more.
func TestUnhexOfLongTexts(t *testing.T) {
	full := strings.Repeat("5a", api.MaxText/2)
	wantUnhex(t, full, bytes.Repeat([]byte{0x5a}, api.MaxText/2), 0, api.OK)
	wantUnhex(t, full[1:], nil, api.MaxText-1, api.ErrShort)
	wantUnhex(t, full[1:]+"x", nil, api.MaxText-1, api.ErrForm)
	wantUnhex(t, full[2:]+"ä", nil, api.MaxText-2, api.ErrForm)
	wantUnhex(t, full+"0", nil, 0, api.ErrLimit)
	wantUnhex(t, full[1:]+"ä", nil, 0, api.ErrLimit)
	wantUnhex(t, "x"+full, nil, 0, api.ErrLimit)
	wantUnhex(t, strings.Repeat("ä", api.MaxText/2), nil, 0, api.ErrForm)
	wantUnhex(t, strings.Repeat("ä", api.MaxText/2)+"0", nil, 0, api.ErrLimit)
}

// wantAddr holds an answer of Addr against what is asked.
func wantAddr(t *testing.T, s string, want uint32, wantAt int, wantErr api.Errno) {
	t.Helper()
	a, at, e := octet.Addr(s)
	if e != wantErr || at != wantAt || a != want {
		t.Errorf("%.40q: %x, %d, error %d; want %x, %d, error %d", s, a, at, e, want, wantAt, wantErr)
	}
}

// P1.4, Addr: addresses, texts that are none, and those that end too early.
func TestAddr(t *testing.T) {
	wantAddr(t, "0.0.0.0", 0, 0, api.OK)
	wantAddr(t, "10.0.0.255", 0x0a0000ff, 0, api.OK)
	wantAddr(t, "1.2.3.4", 0x01020304, 0, api.OK)
	wantAddr(t, "255.255.255.255", math.MaxUint32, 0, api.OK)
	wantAddr(t, "249.199.99.9", 0xf9c76309, 0, api.OK)

	wantAddr(t, "10.0.0.256", 0, 9, api.ErrForm)
	wantAddr(t, "260.0.0.1", 0, 2, api.ErrForm)
	wantAddr(t, "300.0.0.1", 0, 2, api.ErrForm)
	wantAddr(t, "1000.0.0.1", 0, 3, api.ErrForm)
	wantAddr(t, "255.2555", 0, 7, api.ErrForm)
	wantAddr(t, "01.0.0.1", 0, 1, api.ErrForm)
	wantAddr(t, "1.00.0.1", 0, 3, api.ErrForm)
	wantAddr(t, "1.0.0.00", 0, 7, api.ErrForm)
	wantAddr(t, ".1.2.3", 0, 0, api.ErrForm)
	wantAddr(t, "1..1", 0, 2, api.ErrForm)
	wantAddr(t, "1.2.3..", 0, 6, api.ErrForm)
	wantAddr(t, "1.2.3.4.", 0, 7, api.ErrForm)
	wantAddr(t, "1.2.3.4 ", 0, 7, api.ErrForm)
	wantAddr(t, " 1.2.3.4", 0, 0, api.ErrForm)
	wantAddr(t, "1.2,3.4", 0, 3, api.ErrForm)
	wantAddr(t, "-1.2.3.4", 0, 0, api.ErrForm)
	wantAddr(t, "+1.2.3.4", 0, 0, api.ErrForm)
	wantAddr(t, "1.2.ä.4", 0, 4, api.ErrForm)
	wantAddr(t, "ä1..", 0, 0, api.ErrForm)
	wantAddr(t, "1.\xff.3.4", 0, 2, api.ErrForm)
	wantAddr(t, "1.2\x00", 0, 3, api.ErrForm)
	wantAddr(t, "1.2.3.\u0663", 0, 6, api.ErrForm) // a digit of another script
	wantAddr(t, "1.2.3.\u0134", 0, 6, api.ErrForm) // a letter whose low bits are a digit's
	wantAddr(t, "1\u012e2.3.4", 0, 1, api.ErrForm) // a letter whose low bits are a point's
	wantAddr(t, "a.b.c.d", 0, 0, api.ErrForm)

	wantAddr(t, "", 0, 0, api.ErrShort)
	wantAddr(t, "1", 0, 1, api.ErrShort)
	wantAddr(t, "1.", 0, 2, api.ErrShort)
	wantAddr(t, "255.255.255", 0, 11, api.ErrShort)
	wantAddr(t, "255.255.255.", 0, 12, api.ErrShort)
}

// P1.4, Addr: no limit is named, so a long text is told by its first wrong letter.
func TestAddrOfLongTexts(t *testing.T) {
	wantAddr(t, "1.2.3.4"+strings.Repeat(".", 2*api.MaxText), 0, 7, api.ErrForm)
	wantAddr(t, strings.Repeat("9", 2*api.MaxText), 0, 2, api.ErrForm)
	wantAddr(t, strings.Repeat("0", 2*api.MaxText), 0, 1, api.ErrForm)
}

const addrNumber = `(25[0-5]|2[0-4][0-9]|1[0-9][0-9]|[1-9][0-9]|[0-9])`

var (
	addrWhole = regexp.MustCompile(`^(` + addrNumber + `\.){3}` + addrNumber + `$`)
	addrBegun = regexp.MustCompile(`^(` + addrNumber + `\.){0,3}(` + addrNumber + `)?$`)
)

// modelAddr tells what Addr is to answer by what the beginnings of addresses' texts look like.
func modelAddr(s string) (uint32, int, api.Errno) {
	place := 0
	for i := 0; i < len(s); place++ {
		_, size := utf8.DecodeRuneInString(s[i:])
		if !addrBegun.MatchString(s[:i+size]) {
			return 0, place, api.ErrForm
		}
		i += size
	}
	if !addrWhole.MatchString(s) {
		return 0, place, api.ErrShort
	}
	four := netip.MustParseAddr(s).As4()
	return uint32(four[0])<<24 | uint32(four[1])<<16 | uint32(four[2])<<8 | uint32(four[3]), 0, api.OK
}

func holdAgainstModel(t *testing.T, s string) {
	t.Helper()
	a, at, e := modelAddr(s)
	wantAddr(t, s, a, at, e)
}

// P1.4, Addr: all short texts of a few letters, and addresses with one letter changed, against the model.
func TestAddrAgainstModel(t *testing.T) {
	letters := []string{"0", "2", "5", "6", "."}
	texts := []string{""}
	for range 6 {
		var longer []string
		for _, s := range texts {
			for _, l := range letters {
				longer = append(longer, s+l)
				holdAgainstModel(t, s+l)
			}
		}
		texts = longer
	}
	changes := []string{"", "0", "1", "5", "9", ".", "..", "x", "ä", "\xff", "\ufffd", "25", "256"}
	draw := draws(14)
	for range 4000 {
		s := octet.AddrText(uint32(draw() >> (draw() % 33)))
		from := int(draw() % uint64(len(s)+1))
		to := from + int(draw()%2)
		if to > len(s) {
			to = from
		}
		holdAgainstModel(t, s[:from]+changes[draw()%uint64(len(changes))]+s[to:])
		holdAgainstModel(t, s[:from])
	}
}

// P1.4, AddrText: the four bytes in decimal, the highest first, points between.
func TestAddrText(t *testing.T) {
	for a, want := range map[uint32]string{
		0:              "0.0.0.0",
		1:              "0.0.0.1",
		0x0a0000ff:     "10.0.0.255",
		0x01020304:     "1.2.3.4",
		0x64636209:     "100.99.98.9",
		math.MaxUint32: "255.255.255.255",
	} {
		if s := octet.AddrText(a); s != want {
			t.Errorf("%x: %q; want %q", a, s, want)
		}
	}
}

// P1.6: Unhex of Hex are the bytes, Addr of AddrText is the address.
func TestTextsAreReadAsTheyWereWritten(t *testing.T) {
	draw := draws(18)
	for range 1000 {
		b := drawBytes(draw, int(draw()%64))
		wantUnhex(t, octet.Hex(b), b, 0, api.OK)
		wantUnhex(t, strings.ToUpper(octet.Hex(b)), b, 0, api.OK)
		a := uint32(draw() >> (32 + draw()%33))
		wantAddr(t, octet.AddrText(a), a, 0, api.OK)
	}
	most := drawBytes(draw, api.MaxText/2)
	wantUnhex(t, octet.Hex(most), most, 0, api.OK)
	for at := 0; at < 32; at += 8 {
		for x := range uint32(256) {
			wantAddr(t, octet.AddrText(x<<at), x<<at, 0, api.OK)
		}
	}
}

// P1.6: what Addr takes is AddrText of it.
func TestWhatAddrTakesIsAddrTextOfIt(t *testing.T) {
	numbers := []string{"", "0", "00", "01", "1", "9", "10", "010", "99", "100", "199", "255", "256", "0255", "1e1", "0x1"}
	taken := 0
	for _, a := range numbers {
		for _, b := range numbers {
			for _, c := range numbers {
				for _, d := range numbers {
					s := a + "." + b + "." + c + "." + d
					v, _, e := octet.Addr(s)
					if e != api.OK {
						continue
					}
					taken++
					if octet.AddrText(v) != s {
						t.Fatalf("%q was taken as %q", s, octet.AddrText(v))
					}
				}
			}
		}
	}
	if taken != 8*8*8*8 {
		t.Errorf("%d were taken", taken)
	}
}

// P6: what is answered hangs on what is handed in alone.
func TestCallsKeepNothing(t *testing.T) {
	for range 3 {
		wantAddr(t, "1.2.3", 0, 5, api.ErrShort)
		wantAddr(t, "4.5.6.7", 0x04050607, 0, api.OK)
		wantUnhex(t, "abc", nil, 3, api.ErrShort)
		wantUnhex(t, "de", []byte{0xde}, 0, api.OK)
		got, e := octet.Bytes(1, 2)
		wantBytes(t, "a number", got, e, []byte{0, 1}, api.OK)
		got[0] = 9
	}
}
