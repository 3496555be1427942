package ether_test

import (
	"math"
	"net"
	"regexp"
	"strings"
	"testing"
	"unicode/utf8"

	"trunkline/api"
	"trunkline/ether"
)

func wantText(t *testing.T, v uint64, want string, wantErr api.Errno) {
	t.Helper()
	if s, e := ether.MacText(v); e != wantErr || s != want {
		t.Errorf("MacText(%x): %q, error %d; want %q, error %d", v, s, e, want, wantErr)
	}
}

func wantMac(t *testing.T, s string, want uint64, wantAt int, wantErr api.Errno) {
	t.Helper()
	if v, at, e := ether.Mac(s); e != wantErr || at != wantAt || v != want {
		t.Errorf("Mac(%.40q): %x, %d, error %d; want %x, %d, error %d", s, v, at, e, want, wantAt, wantErr)
	}
}

// P8.3, MacText: six bytes, the highest first, a : between each two.
func TestMacText(t *testing.T) {
	wantText(t, 0, "00:00:00:00:00:00", api.OK)
	wantText(t, 2, "00:00:00:00:00:02", api.OK)
	wantText(t, 0x010203040506, "01:02:03:04:05:06", api.OK)
	wantText(t, 0xabcdef012345, "ab:cd:ef:01:23:45", api.OK)
	wantText(t, 0x6789f00fa05b, "67:89:f0:0f:a0:5b", api.OK)
	wantText(t, api.Everybody, "ff:ff:ff:ff:ff:ff", api.OK)
	for _, far := range []uint64{1 << 48, 1<<48 | 2, 1 << 63, math.MaxUint64} {
		wantText(t, far, "", api.ErrArg)
	}
}

// P8.3, Mac: texts of addresses, great digits too.
func TestMac(t *testing.T) {
	wantMac(t, "00:00:00:00:00:00", 0, 0, api.OK)
	wantMac(t, "00:00:00:00:00:02", 2, 0, api.OK)
	wantMac(t, "01:23:45:67:89:ab", 0x0123456789ab, 0, api.OK)
	wantMac(t, "AB:CD:EF:ab:cd:ef", 0xabcdefabcdef, 0, api.OK)
	wantMac(t, "aB:Cd:eF:Ab:cD:Ef", 0xabcdefabcdef, 0, api.OK)
	wantMac(t, "ff:ff:ff:ff:ff:ff", api.Everybody, 0, api.OK)
	wantMac(t, "FF:FF:FF:FF:FF:FF", api.Everybody, 0, api.OK)
}

// P8.3, Mac: letters with which no text of an address goes on.
func TestMacRefuses(t *testing.T) {
	wantMac(t, "00:0g", 0, 4, api.ErrForm)
	wantMac(t, "00:0G", 0, 4, api.ErrForm)
	wantMac(t, "x", 0, 0, api.ErrForm)
	wantMac(t, ":", 0, 0, api.ErrForm)
	wantMac(t, "0:", 0, 1, api.ErrForm)
	wantMac(t, "0:0:0:0:0:0", 0, 1, api.ErrForm)
	wantMac(t, "000", 0, 2, api.ErrForm)
	wantMac(t, "000000000002", 0, 2, api.ErrForm)
	wantMac(t, "00-00-00-00-00-02", 0, 2, api.ErrForm)
	wantMac(t, "0000.0000.0002", 0, 2, api.ErrForm)
	wantMac(t, "00::00", 0, 3, api.ErrForm)
	wantMac(t, "00:00:00:00:00:02:", 0, 17, api.ErrForm)
	wantMac(t, "00:00:00:00:00:020", 0, 17, api.ErrForm)
	wantMac(t, "00:00:00:00:00:02 ", 0, 17, api.ErrForm)
	wantMac(t, "00:00:00:00:00:02ä", 0, 17, api.ErrForm)
	wantMac(t, "00:00:00:00:00:02\xff", 0, 17, api.ErrForm)
	wantMac(t, "00:00:00:00:00:02:00:00", 0, 17, api.ErrForm)
	wantMac(t, " 00:00:00:00:00:02", 0, 0, api.ErrForm)
	wantMac(t, "0x:00:00:00:00:02", 0, 1, api.ErrForm)
	wantMac(t, "+0:00:00:00:00:02", 0, 0, api.ErrForm)
	wantMac(t, "00:00;00", 0, 5, api.ErrForm)
	wantMac(t, "00:ä0", 0, 3, api.ErrForm)
	wantMac(t, "0ä:00", 0, 1, api.ErrForm)
	wantMac(t, "00ä00", 0, 2, api.ErrForm)
	wantMac(t, "00:\xff\xff", 0, 3, api.ErrForm)
	wantMac(t, "00:0\xc3", 0, 4, api.ErrForm)
	wantMac(t, "00\xe2\x82", 0, 2, api.ErrForm)
	wantMac(t, "\x00", 0, 0, api.ErrForm)
	wantMac(t, "00\u013a00", 0, 2, api.ErrForm)     // a letter whose low bits are those of a :
	wantMac(t, "00\uff1a00", 0, 2, api.ErrForm)     // a wide :
	wantMac(t, "0\u0130:", 0, 1, api.ErrForm)       // a letter whose low bits are a digit's
	wantMac(t, "0\u0663:", 0, 1, api.ErrForm)       // a digit of another script
	wantMac(t, "0\uff41:", 0, 1, api.ErrForm)       // a wide a
	wantMac(t, "00:0\U0001f600", 0, 4, api.ErrForm) // four bytes, one letter
}

// P8.3, Mac: texts that end too early.
func TestMacShort(t *testing.T) {
	whole := "01:23:45:67:89:aB"
	for n := range len(whole) {
		wantMac(t, whole[:n], 0, n, api.ErrShort)
	}
}

// P8.3, Mac: no limit is named, so a long text is told by its first wrong letter.
func TestMacOfLongTexts(t *testing.T) {
	wantMac(t, strings.Repeat("00:", 2*api.MaxText), 0, 17, api.ErrForm)
	wantMac(t, strings.Repeat("0", 2*api.MaxText), 0, 2, api.ErrForm)
	wantMac(t, strings.Repeat("ä", 2*api.MaxText), 0, 0, api.ErrForm)
	wantMac(t, "00:00"+strings.Repeat("x", 2*api.MaxText), 0, 5, api.ErrForm)
}

// P8.3, Mac: each letter where a digit stands, and where a : stands.
func TestMacOfEachLetter(t *testing.T) {
	for r := rune(0); r < 0x3000; r++ {
		s := string(r)
		value := strings.IndexRune("0123456789abcdef", r)
		if value < 0 {
			value = strings.IndexRune("0123456789ABCDEF", r)
		}
		if value >= 0 {
			wantMac(t, s+"0:00:00:00:00:0"+s, uint64(value)<<44|uint64(value), 0, api.OK)
		} else {
			wantMac(t, "00:00:00:00:00:0"+s, 0, 16, api.ErrForm)
		}
		if r == ':' {
			wantMac(t, "00:00:00:00:00"+s+"00", 0, 0, api.OK)
		} else {
			wantMac(t, "00:00:00:00:00"+s+"00", 0, 14, api.ErrForm)
		}
	}
}

const macByte = `[0-9a-fA-F]{2}`

var (
	macWhole = regexp.MustCompile(`^(` + macByte + `:){5}` + macByte + `$`)
	macBegun = regexp.MustCompile(`^((` + macByte + `:){0,5}[0-9a-fA-F]{0,2})$`)
)

// modelMac tells what Mac is to answer by what the beginnings of addresses' texts look like.
func modelMac(s string) (uint64, int, api.Errno) {
	place := 0
	for i := 0; i < len(s); place++ {
		_, size := utf8.DecodeRuneInString(s[i:])
		if !macBegun.MatchString(s[:i+size]) {
			return 0, place, api.ErrForm
		}
		i += size
	}
	if !macWhole.MatchString(s) {
		return 0, place, api.ErrShort
	}
	six, _ := net.ParseMAC(s)
	v := uint64(0)
	for _, x := range six {
		v = v<<8 | uint64(x)
	}
	return v, 0, api.OK
}

// P8.3, Mac: texts of addresses with a letter changed, against the model.
func TestMacAgainstModel(t *testing.T) {
	changes := []string{"", "0", "9", "a", "f", "F", "g", ":", "::", "x", "ä", "\xff", "\ufffd", "00", "0:", ":0", "-"}
	draw := draws(83)
	for range 6000 {
		s, _ := ether.MacText(drawMac(draw))
		if draw()%4 == 0 {
			s = strings.ToUpper(s)
		}
		from := int(draw() % uint64(len(s)+1))
		to := min(len(s), from+int(draw()%3))
		for _, text := range []string{s, s[:from], s[:from] + changes[draw()%uint64(len(changes))] + s[to:]} {
			v, at, e := modelMac(text)
			wantMac(t, text, v, at, e)
		}
	}
}

// P8.5: Mac of MacText is the address.
func TestMacOfMacText(t *testing.T) {
	draw := draws(85)
	for i := range 3000 {
		v := drawMac(draw)
		if i < 48*8 {
			v = uint64(i%8) << (i / 8) & api.Everybody
		}
		s, e := ether.MacText(v)
		if e != api.OK {
			t.Fatalf("MacText(%x): error %d", v, e)
		}
		wantMac(t, s, v, 0, api.OK)
		wantMac(t, strings.ToUpper(s), v, 0, api.OK)
	}
}
