package sums_test

import (
	"bytes"
	"encoding/binary"
	"hash/crc32"
	"testing"

	"trunkline/api"
	"trunkline/sums"
)

// edges are numbers of 16 bits at which sums and carries turn.
var edges = []uint16{0, 1, 2, 0x7fff, 0x8000, 0x8001, 0xfffd, 0xfffe, 0xffff}

// draws is a row of numbers that look like chance and are the same each time.
func draws(seed uint64) func() uint64 {
	return func() uint64 {
		seed += 0x9e3779b97f4a7c15
		z := (seed ^ seed>>30) * 0xbf58476d1ce4e5b9
		z = (z ^ z>>27) * 0x94d049bb133111eb
		return z ^ z>>31
	}
}

func drawBytes(draw func() uint64, n int) []byte {
	b := make([]byte, n)
	for i := range b {
		b[i] = byte(draw())
	}
	return b
}

// P2.1, Crc: known sums, and those of the library.
func TestCrc(t *testing.T) {
	rising := make([]byte, 32)
	for i := range rising {
		rising[i] = byte(i)
	}
	for _, c := range []struct {
		name string
		b    []byte
		want uint32
	}{
		{"the example", []byte("123456789"), 0xe3069283},
		{"nil", nil, 0},
		{"none", []byte{}, 0},
		{"one 0", []byte{0}, 0x527d5351},
		{"32 of 0", make([]byte, 32), 0x8a9136aa},
		{"32 of ff", bytes.Repeat([]byte{0xff}, 32), 0x62a8ab43},
		{"rising", rising, 0x46dd794e},
	} {
		if got := sums.Crc(c.b); got != c.want {
			t.Errorf("%s: %08x; want %08x", c.name, got, c.want)
		}
	}
	table := crc32.MakeTable(crc32.Castagnoli)
	draw := draws(21)
	for size := range 300 {
		b := drawBytes(draw, size)
		if got, want := sums.Crc(b), crc32.Checksum(b, table); got != want {
			t.Fatalf("%d bytes: %08x; want %08x", size, got, want)
		}
	}
	for x := range 256 {
		b := []byte{byte(x)}
		if got, want := sums.Crc(b), crc32.Checksum(b, table); got != want {
			t.Fatalf("%02x: %08x; want %08x", x, got, want)
		}
	}
}

// P2.1, Stamp: the sum with 0 in its place, the lowest byte first.
func TestStamp(t *testing.T) {
	draw := draws(22)
	table := crc32.MakeTable(crc32.Castagnoli)
	for size := 12; size < 80; size++ {
		b := drawBytes(draw, size)
		want := bytes.Clone(b)
		copy(want[8:12], []byte{0, 0, 0, 0})
		binary.LittleEndian.PutUint32(want[8:12], crc32.Checksum(want, table))
		got, e := sums.Stamp(b)
		if e != api.OK || !bytes.Equal(got, want) {
			t.Fatalf("%d bytes: % x, error %d; want % x", size, got, e, want)
		}
	}
	got, e := sums.Stamp(make([]byte, 12))
	if e != api.OK || !bytes.Equal(got, []byte{0, 0, 0, 0, 0, 0, 0, 0, 0x5d, 0xb5, 0x60, 0x2b}) {
		t.Errorf("twelve of 0: % x, error %d", got, e)
	}
}

// P2.1, Stamp and Stamped: fewer than 12 bytes.
func TestShortOnes(t *testing.T) {
	for size := range 12 {
		b := bytes.Repeat([]byte{7}, 20)[:size]
		if got, e := sums.Stamp(b); len(got) != 0 || e != api.ErrShort {
			t.Errorf("%d bytes: % x, error %d", size, got, e)
		}
		if sums.Stamped(b) {
			t.Errorf("%d bytes are stamped", size)
		}
	}
	if got, e := sums.Stamp(nil); len(got) != 0 || e != api.ErrShort {
		t.Errorf("nil: % x, error %d", got, e)
	}
	if sums.Stamped(nil) {
		t.Error("nil is stamped")
	}
	whole, _ := sums.Stamp([]byte("twelve bytes"))
	if !sums.Stamped(whole) || sums.Stamped(whole[:11]) {
		t.Error("12 bytes, and 11 of them")
	}
}

// P2.1, Stamped: only what is its own Stamp, be the sum another one, or the other way round.
func TestStampedIsItsOwnStamp(t *testing.T) {
	draw := draws(23)
	for size := 12; size < 60; size++ {
		b := drawBytes(draw, size)
		if sums.Stamped(b) {
			t.Fatalf("% x is stamped", b)
		}
		good, _ := sums.Stamp(b)
		if !sums.Stamped(good) {
			t.Fatalf("% x is not stamped", good)
		}
		turned := bytes.Clone(good)
		turned[8], turned[9], turned[10], turned[11] = good[11], good[10], good[9], good[8]
		if sums.Stamped(turned) {
			t.Fatalf("% x is stamped, the highest byte first", turned)
		}
		for bit := range 8 * size {
			good[bit/8] ^= 1 << (bit % 8)
			if sums.Stamped(good) {
				t.Fatalf("% x is stamped, the bit %d turned", good, bit)
			}
			good[bit/8] ^= 1 << (bit % 8)
		}
	}
	if sums.Stamped(make([]byte, 12)) {
		t.Error("bytes 0 are stamped")
	}
}

// P2.3: what is stamped is Stamped, but not with up to four bytes, one behind the other, changed behind the twelfth.
func TestChangesAreSeen(t *testing.T) {
	draw := draws(24)
	for range 300 {
		b, e := sums.Stamp(drawBytes(draw, 13+int(draw()%40)))
		if e != api.OK || !sums.Stamped(b) {
			t.Fatalf("% x, error %d", b, e)
		}
		for many := 1; many <= 4; many++ {
			for at := 12; at+many <= len(b); at++ {
				changed := bytes.Clone(b)
				for i := at; i < at+many; i++ {
					changed[i] ^= byte(draw())
				}
				if !bytes.Equal(changed, b) && sums.Stamped(changed) {
					t.Fatalf("% x became % x", b, changed)
				}
			}
		}
	}
}

// P2.4: Crc of two rows of one length, xor.
func TestCrcOfTwoRowsXor(t *testing.T) {
	draw := draws(25)
	for size := range 200 {
		a, b := drawBytes(draw, size), drawBytes(draw, size)
		both := make([]byte, size)
		for i := range both {
			both[i] = a[i] ^ b[i]
		}
		if sums.Crc(both) != sums.Crc(a)^sums.Crc(b)^sums.Crc(make([]byte, size)) {
			t.Fatalf("% x and % x", a, b)
		}
	}
}

// modelNet is the sum as the document tells it: all numbers added, then what goes beyond 16 bits.
func modelNet(b []byte) uint16 {
	sum := uint64(0)
	for i := 0; i < len(b); i += 2 {
		low := byte(0)
		if i+1 < len(b) {
			low = b[i+1]
		}
		sum += uint64(b[i])<<8 | uint64(low)
	}
	for sum>>16 != 0 {
		sum = sum&0xffff + sum>>16
	}
	return ^uint16(sum)
}

// P2.2, Net: known sums, odd numbers of bytes, and the model's.
func TestNet(t *testing.T) {
	for _, c := range []struct {
		name string
		b    []byte
		want uint16
	}{
		{"the example", []byte{0, 1, 0xf2, 3}, 0x0dfb},
		{"nil", nil, 0xffff},
		{"none", []byte{}, 0xffff},
		{"one byte", []byte{1}, 0xfeff},
		{"three bytes", []byte{0, 1, 2}, 0xfdfe},
		{"a 0", []byte{0}, 0xffff},
		{"two of ff", []byte{0xff, 0xff}, 0},
		{"carries", []byte{0xff, 0xff, 0, 1}, 0xfffe},
		{"a carry that carries", []byte{0xff, 0xff, 0xff, 0xff, 0, 1}, 0xfffe},
		{"eight bytes", []byte{0, 1, 0xf2, 3, 0xf4, 0xf5, 0xf6, 0xf7}, 0x220d},
	} {
		if got := sums.Net(c.b); got != c.want {
			t.Errorf("%s: %04x; want %04x", c.name, got, c.want)
		}
	}
	draw := draws(26)
	for size := range 300 {
		b := drawBytes(draw, size)
		for range 4 {
			if got, want := sums.Net(b), modelNet(b); got != want {
				t.Fatalf("% x: %04x; want %04x", b, got, want)
			}
			for i := range b {
				if draw()%2 == 0 {
					b[i] = 0xff
				}
			}
		}
	}
}

// P2.2 and P5, Net: a sum that goes far beyond 32 bits does not go round.
func TestNetOfManyBytes(t *testing.T) {
	for _, size := range []int{131070, 131072, 131073, 400000, 400001} {
		b := bytes.Repeat([]byte{0xff}, size)
		b[1] = 0xfe
		if got, want := sums.Net(b), modelNet(b); got != want {
			t.Errorf("%d bytes: %04x; want %04x", size, got, want)
		}
	}
}

// P2.5: Net with its own two bytes, behind an even number of bytes, is 0.
func TestNetWithItsOwnSumIsNone(t *testing.T) {
	draw := draws(27)
	for size := 0; size < 200; size += 2 {
		for _, b := range [][]byte{drawBytes(draw, size), make([]byte, size), bytes.Repeat([]byte{0xff}, size)} {
			with := binary.BigEndian.AppendUint16(b, sums.Net(b))
			if got := sums.Net(with); got != 0 {
				t.Fatalf("% x: %04x", with, got)
			}
		}
	}
}

// P2.5: in which order the numbers stand plays no part.
func TestOrderOfNumbersPlaysNoPart(t *testing.T) {
	draw := draws(28)
	for many := 2; many < 60; many++ {
		b := drawBytes(draw, 2*many)
		sum := sums.Net(b)
		for range 20 {
			i, j := 2*int(draw()%uint64(many)), 2*int(draw()%uint64(many))
			b[i], b[i+1], b[j], b[j+1] = b[j], b[j+1], b[i], b[i+1]
			if sums.Net(b) != sum {
				t.Fatalf("% x: %04x; it was %04x", b, sums.Net(b), sum)
			}
		}
	}
}

// modelSwap is Swap as the document tells it, for all arguments, be they a sum and its number or not.
func modelSwap(sum, old, is uint16) uint16 {
	total := uint64(0xffff-sum) + uint64(0xffff-old) + uint64(is)
	for total>>16 != 0 {
		total = total&0xffff + total>>16
	}
	return 0xffff - uint16(total)
}

// P2.2, Swap: all arguments.
func TestSwap(t *testing.T) {
	if got := sums.Swap(0x220d, 1, 2); got != 0x220c {
		t.Errorf("1 becomes 2: %04x", got)
	}
	if got := sums.Swap(0xdd2f, 0x5555, 0x3285); got != 0 {
		t.Errorf("RFC 1624: %04x", got)
	}
	draw := draws(29)
	check := func(sum, old, is uint16) {
		if got, want := sums.Swap(sum, old, is), modelSwap(sum, old, is); got != want {
			t.Fatalf("%04x, %04x, %04x: %04x; want %04x", sum, old, is, got, want)
		}
	}
	for _, sum := range edges {
		for _, old := range edges {
			for _, is := range edges {
				check(sum, old, is)
			}
		}
	}
	for range 20000 {
		check(uint16(draw()), uint16(draw()), uint16(draw()))
	}
}

// P2.6: Swap is Net of what the bytes became, but where they all became 0.
func TestSwapIsNetOfWhatTheBytesBecame(t *testing.T) {
	draw := draws(30)
	pick := func() uint16 {
		if n := draw() % 12; n < uint64(len(edges)) {
			return edges[n]
		}
		return uint16(draw())
	}
	none := 0
	for range 50000 {
		var b []byte
		for range 1 + draw()%5 {
			b = binary.BigEndian.AppendUint16(b, pick()*uint16(draw()%2))
		}
		at := 2 * int(draw()%uint64(len(b)/2))
		sum, old, is := sums.Net(b), binary.BigEndian.Uint16(b[at:]), pick()
		binary.BigEndian.PutUint16(b[at:], is)
		got, want := sums.Swap(sum, old, is), sums.Net(b)
		if bytes.Equal(b, make([]byte, len(b))) {
			none++
			if got != 0 && got != 0xffff {
				t.Fatalf("% x: %04x", b, got)
			}
		} else if got != want {
			t.Fatalf("%04x became % x: %04x; want %04x", old, b, got, want)
		}
	}
	if none == 0 {
		t.Error("never did all bytes become 0")
	}
}

// P3: what is handed in stays as it is, its spare room too, and what is answered is new memory.
func TestStampIsNewMemory(t *testing.T) {
	room := []byte("a packet of SCTP, and spare room")
	as := bytes.Clone(room)
	for _, size := range []int{0, 11, 12, 16} {
		got, _ := sums.Stamp(room[:size])
		sums.Stamped(room[:size])
		sums.Crc(room[:size])
		sums.Net(room[:size])
		sums.Net(room[: size+1 : size+1])
		got = got[:cap(got)]
		for i := range got {
			got[i] ^= 0xff
		}
		if !bytes.Equal(room, as) {
			t.Fatalf("%d bytes: what was handed in became %q", size, room)
		}
	}
	stamped, _ := sums.Stamp(room[:16])
	again, _ := sums.Stamp(stamped)
	again[0] ^= 0xff
	if !sums.Stamped(stamped) {
		t.Error("a stamp of what is stamped lies in it")
	}
}

// P6: what is answered hangs on what is handed in alone.
func TestCallsKeepNothing(t *testing.T) {
	for range 3 {
		if sums.Net([]byte{1}) != 0xfeff || sums.Net([]byte{1, 2, 3}) != 0xfbfd {
			t.Error("an odd byte goes on to the next call")
		}
		if sums.Crc([]byte("123456789")) != 0xe3069283 {
			t.Error("another sum")
		}
	}
}
