package ip_test

import (
	"bytes"
	"encoding/binary"
	"encoding/hex"
	"fmt"
	"math"
	"testing"

	"trunkline/api"
	"trunkline/ip"
)

const headLen = 20

// draws is a row of numbers that look like chance and are the same each time.
func draws(seed uint64) func() uint64 {
	return func() uint64 {
		seed += 0x9e3779b97f4a7c15
		z := (seed ^ seed>>30) * 0xbf58476d1ce4e5b9
		z = (z ^ z>>27) * 0x94d049bb133111eb
		return z ^ z>>31
	}
}

func drawBytes(draw func() uint64, n int) []byte {
	b := make([]byte, n)
	for i := range b {
		b[i] = byte(draw())
	}
	return b
}

// netSum is the Internet's sum, reckoned as a remainder.
func netSum(b []byte) uint16 {
	total := uint64(0)
	for i, x := range b {
		total += uint64(x) << (8 * (1 - i%2))
	}
	if total == 0 {
		return 0xffff
	}
	if total %= 0xffff; total == 0 {
		return 0
	}
	return ^uint16(total)
}

// stamp lays a right sum into a head, of so many bytes.
func stamp(b []byte, size int) []byte {
	copy(b[10:], []byte{0, 0})
	binary.BigEndian.PutUint16(b[10:], netSum(b[:size]))
	return b
}

// packet is the bytes that a packet is to be.
func packet(p api.Packet) []byte {
	b := []byte{0x45, 0}
	b = binary.BigEndian.AppendUint16(b, uint16(20+len(p.Body)))
	b = binary.BigEndian.AppendUint16(b, p.ID)
	flags := uint16(p.Off / 8)
	if p.Dont {
		flags += 0x4000
	}
	if p.More {
		flags += 0x2000
	}
	b = binary.BigEndian.AppendUint16(b, flags)
	b = append(b, p.TTL, p.Proto, 0, 0)
	b = binary.BigEndian.AppendUint32(b, p.Src)
	b = binary.BigEndian.AppendUint32(b, p.Dst)
	return append(stamp(b, headLen), p.Body...)
}

// brief is the beginning of what x is.
func brief(x any) string {
	s := fmt.Sprint(x)
	return s[:min(200, len(s))]
}

func same(a, b api.Packet) bool {
	body := bytes.Equal(a.Body, b.Body)
	return body && a.Src == b.Src && a.Dst == b.Dst && a.Proto == b.Proto && a.TTL == b.TTL && a.ID == b.ID && a.Dont == b.Dont && a.More == b.More && a.Off == b.Off
}

func wantPut(t *testing.T, name string, p api.Packet, want []byte, wantErr api.Errno) {
	t.Helper()
	if b, e := ip.Put(p); e != wantErr || !bytes.Equal(b, want) {
		t.Errorf("%s: Put: % .30x, error %d; want % .30x, error %d", name, b, e, want, wantErr)
	}
}

func wantTake(t *testing.T, name string, b []byte, want api.Packet, wantErr api.Errno) {
	t.Helper()
	if p, e := ip.Take(b); e != wantErr || !same(p, want) {
		t.Errorf("%s: Take: %s, error %d; want %s, error %d", name, brief(p), e, brief(want), wantErr)
	}
}

// drawPacket is a packet that may be.
func drawPacket(draw func() uint64) api.Packet {
	p := api.Packet{Src: uint32(draw()), Dst: uint32(draw()), Proto: uint8(draw()), TTL: uint8(draw()), ID: uint16(draw())}
	p.Dont, p.More = draw()%2 == 0, draw()%2 == 0
	if draw()%2 == 0 {
		p.Off = int(draw()%8000) * 8
	}
	size := int(draw() % 100)
	if p.More {
		size -= size % 8
	}
	p.Body = drawBytes(draw, size)
	return p
}

// P10.1, Put: the chapter's example, and one with all of its parts, by hand.
func TestPut(t *testing.T) {
	want, _ := hex.DecodeString("45000014000100004084" + "6663" + "0a0000010a000002")
	wantPut(t, "the example", api.Packet{Src: 0x0a000001, Dst: 0x0a000002, Proto: 132, TTL: 64, ID: 1}, want, api.OK)
	want, _ = hex.DecodeString("4500001cabcd7ff9ff01" + "8006" + "0102030405060708" + "3132333435363738")
	p := api.Packet{Src: 0x01020304, Dst: 0x05060708, Proto: 1, TTL: 255, ID: 0xabcd, Dont: true, More: true, Off: 65480, Body: []byte("12345678")}
	wantPut(t, "Dont, More and Off", p, want, api.OK)
	wantPut(t, "nothing", api.Packet{}, packet(api.Packet{}), api.OK)
	p = api.Packet{More: true}
	wantPut(t, "More, and no Body", p, packet(p), api.OK)
	p = api.Packet{Dont: true, Body: []byte("1")}
	wantPut(t, "Dont", p, packet(p), api.OK)
}

// P10.1, Put: Offs that may not be, and Bodies of which more stands behind.
func TestPutRefuses(t *testing.T) {
	for _, off := range []int{-1, -8, -65528, 1, 4, 7, 9, 65527, 65529, 65536, 1 << 20, math.MinInt, math.MinInt + 8, math.MaxInt, math.MaxInt - 7} {
		for _, body := range [][]byte{nil, make([]byte, 8), make([]byte, 70000)} {
			wantPut(t, "Off", api.Packet{Off: off, Body: body}, nil, api.ErrArg)
			wantPut(t, "Off", api.Packet{Off: off, Body: body, More: true}, nil, api.ErrArg)
		}
	}
	for size := range 30 {
		p := api.Packet{Body: make([]byte, size), Off: 8}
		wantPut(t, "without More", p, packet(p), api.OK)
		p.More = true
		if size%8 == 0 {
			wantPut(t, "with More", p, packet(p), api.OK)
		} else {
			wantPut(t, "with More", p, nil, api.ErrArg)
		}
	}
	wantPut(t, "the first error", api.Packet{More: true, Body: make([]byte, 65537)}, nil, api.ErrArg)
}

// P10.1, Put: Off, Body and head together are at most MaxIP.
func TestPutLimit(t *testing.T) {
	for _, c := range []struct{ off, most int }{{0, 65515}, {8, 65507}, {32768, 32747}, {65512, 3}} {
		p := api.Packet{Off: c.off, Body: make([]byte, c.most)}
		wantPut(t, "the most", p, packet(p), api.OK)
		wantTake(t, "the most", packet(p), p, api.OK)
		p.Body = make([]byte, c.most+1)
		wantPut(t, "one more", p, nil, api.ErrLimit)
		p.Body = make([]byte, 1<<20)
		wantPut(t, "many more", p, nil, api.ErrLimit)
	}
	wantPut(t, "no Body at all", api.Packet{Off: 65520}, nil, api.ErrLimit)
	wantPut(t, "no Body at all", api.Packet{Off: 65528}, nil, api.ErrLimit)
	wantPut(t, "no Body at all", api.Packet{Off: 65528, More: true}, nil, api.ErrLimit)
}

// P10.6: Take of Put is the packet, whatever stands behind.
func TestTakeOfPut(t *testing.T) {
	draw := draws(106)
	for range 3000 {
		p := drawPacket(draw)
		wantPut(t, "a packet", p, packet(p), api.OK)
		b, _ := ip.Put(p)
		wantTake(t, "Take of Put", b, p, api.OK)
		wantTake(t, "with more behind", append(b, drawBytes(draw, int(draw()%50))...), p, api.OK)
	}
}

// P10.6: a packet of which a bit of the head is turned, behind its first byte, is not taken.
func TestTurnedBits(t *testing.T) {
	draw := draws(107)
	for i := range 400 {
		p := drawPacket(draw)
		if i%4 == 0 {
			p = api.Packet{Src: uint32(draw() % 2), Body: make([]byte, 8*(i%3))}
		}
		b := append(packet(p), make([]byte, 1<<16)...)
		for bit := 8; bit < 8*headLen; bit++ {
			b[bit/8] ^= 1 << (bit % 8)
			if q, e := ip.Take(b); e == api.OK || !same(q, api.Packet{}) {
				t.Fatalf("bit %d of % x: %s, error %d", bit, b[:headLen], brief(q), e)
			}
			b[bit/8] ^= 1 << (bit % 8)
		}
	}
}

// long is the bytes of a packet whose head has so many words beyond the fifth.
func long(p api.Packet, words int, draw func() uint64) []byte {
	b := packet(p)
	out := append(b[:headLen:headLen], drawBytes(draw, 4*words)...)
	out = append(out, b[headLen:]...)
	out[0] += byte(words)
	binary.BigEndian.PutUint16(out[2:], uint16(len(out)))
	return stamp(out, headLen+4*words)
}

// P10.2, Take: words beyond the fifth count for nothing, but for the sum.
func TestTakeOfLongHeads(t *testing.T) {
	draw := draws(102)
	for range 300 {
		p := drawPacket(draw)
		for words := range 11 {
			b := long(p, words, draw)
			wantTake(t, "a long head", b, p, api.OK)
			wantTake(t, "with more behind", append(b, 1, 2, 3), p, api.OK)
			wantTake(t, "without the last byte", b[:len(b)-1], api.Packet{}, api.ErrShort)
			if words > 0 {
				b[headLen+int(draw()%uint64(4*words))] ^= 1 << (draw() % 8)
				wantTake(t, "turned", b, api.Packet{}, api.ErrSum)
			}
		}
	}
}

// P10.2, Take: which service was asked for counts for nothing.
func TestTakeOfServices(t *testing.T) {
	p := api.Packet{Src: 1, Dst: 2, Proto: 3, TTL: 4, ID: 5, Body: []byte("x")}
	for service := range 256 {
		b := packet(p)
		b[1] = byte(service)
		wantTake(t, "a service", stamp(b, headLen), p, api.OK)
	}
}

// P10.2, Take: fewer bytes than a head, ahead of all else.
func TestTakeShort(t *testing.T) {
	b := packet(api.Packet{Body: []byte("12345678")})
	wantTake(t, "nil", nil, api.Packet{}, api.ErrShort)
	for n := range len(b) {
		wantTake(t, "short", b[:n], api.Packet{}, api.ErrShort)
	}
	for n := range headLen {
		wantTake(t, "short, and of another form", make([]byte, n), api.Packet{}, api.ErrShort)
	}
}

// P10.2, Take: each first byte, with and without the bytes that it asks for.
func TestTakeOfEachFirstByte(t *testing.T) {
	p := api.Packet{Src: 1, Dst: 2, Proto: 3, TTL: 4, ID: 5}
	for first := range 256 {
		b := append(packet(p), make([]byte, 40)...)
		b[0] = byte(first)
		head := 4 * (first % 16)
		binary.BigEndian.PutUint16(b[2:], uint16(head))
		if first/16 != 4 || head < 20 {
			wantTake(t, "a form", stamp(b, max(head, 20)), api.Packet{}, api.ErrForm)
			wantTake(t, "a form, and a wrong sum", make([]byte, 60), api.Packet{}, api.ErrForm)
			continue
		}
		wantTake(t, "a length", stamp(b, head), p, api.OK)
		wantTake(t, "just the head", b[:head], p, api.OK)
		wantTake(t, "a byte is missing", b[:head-1], api.Packet{}, api.ErrShort)
	}
}

// P10.2 and P2, Take: the length, held against the head's and against the bytes that are there.
func TestTakeOfLengths(t *testing.T) {
	draw := draws(103)
	p := api.Packet{Src: 1, Dst: 2, Proto: 3, TTL: 4, ID: 5, Body: drawBytes(draw, 20)}
	for words := range 11 {
		b := long(p, words, draw)
		head := headLen + 4*words
		for length := range 100 {
			binary.BigEndian.PutUint16(b[2:], uint16(length))
			stamp(b, head)
			want, wantErr := p, api.OK
			switch {
			case length < head:
				want, wantErr = api.Packet{}, api.ErrForm
			case length > len(b):
				want, wantErr = api.Packet{}, api.ErrShort
			default:
				want.Body = b[head:length]
			}
			wantTake(t, "a length", b, want, wantErr)
			if wantErr == api.OK {
				wantErr = api.ErrSum
			}
			b[11] ^= 1
			wantTake(t, "a length, and a wrong sum", b, api.Packet{}, wantErr)
			if words > 0 {
				wantTake(t, "a length, and a head that is cut", b[:head-1], api.Packet{}, api.ErrShort)
			}
		}
	}
}

// P10.2, Take: a wrong sum is told ahead of bits that may not be, and these ahead of a limit.
func TestTakeOfFlags(t *testing.T) {
	for size := range 17 {
		p := api.Packet{Src: 1, Dst: 2, Body: make([]byte, size)}
		b := packet(p)
		for flags := 0; flags < 1<<16; flags += 1 + flags%7*13 {
			binary.BigEndian.PutUint16(b[6:], uint16(flags))
			stamp(b, headLen)
			want, wantErr := p, api.OK
			want.Dont, want.More, want.Off = flags&0x4000 != 0, flags&0x2000 != 0, flags%0x2000*8
			switch {
			case flags >= 0x8000 || want.More && size%8 != 0:
				want, wantErr = api.Packet{}, api.ErrForm
			case want.Off+size+20 > 65535:
				want, wantErr = api.Packet{}, api.ErrLimit
			}
			wantTake(t, "flags", b, want, wantErr)
			b[10] ^= 0x10
			wantTake(t, "flags, and a wrong sum", b, api.Packet{}, api.ErrSum)
		}
	}
}

// P10.2, Take: the limit is held against Off, the Body's length and 20, also where the head is longer.
func TestTakeLimit(t *testing.T) {
	draw := draws(104)
	for _, words := range []int{0, 1, 10} {
		p := api.Packet{Off: 65512, Body: []byte("123")}
		wantTake(t, "the most", long(p, words, draw), p, api.OK)
		p.Body = []byte("1234")
		wantTake(t, "one more", long(p, words, draw), api.Packet{}, api.ErrLimit)
		p = api.Packet{Off: 65520}
		wantTake(t, "no Body", long(p, words, draw), api.Packet{}, api.ErrLimit)
		p = api.Packet{Body: make([]byte, 65515-4*words)}
		wantTake(t, "the longest", long(p, words, draw), p, api.OK)
	}
}

// P1: bytes of any kind are taken or not; what is taken is what Put puts, but for what counts for nothing.
func TestTakeOfAnyBytes(t *testing.T) {
	draw := draws(108)
	taken := 0
	for i := range 20000 {
		b := drawBytes(draw, int(draw()%80))
		if i%2 == 0 && len(b) >= headLen {
			b[0], b[2], b[3] = 0x45, 0, byte(draw()%uint64(len(b)+1))
			b[6] &= 0x5f
			stamp(b, headLen)
		}
		p, e := ip.Take(b)
		if e != api.OK {
			wantTake(t, "an error", b, api.Packet{}, e)
			continue
		}
		taken++
		again, e := ip.Put(p)
		if e != api.OK {
			t.Fatalf("what was taken may not be: %s, error %d", brief(p), e)
		}
		wantTake(t, "again", again, p, api.OK)
	}
	if taken < 1000 {
		t.Errorf("%d were taken", taken)
	}
}

// scribble writes over a list and the spare room behind it.
func scribble(b []byte) {
	b = b[:cap(b)]
	for i := range b {
		b[i] ^= 0x5a
	}
}

// P3: what is handed in stays as it is, spare room too, and what is answered is new memory.
func TestNewMemory(t *testing.T) {
	whole := bytes.Repeat([]byte("abcdefgh"), 20)
	keep := bytes.Clone(whole)
	p := api.Packet{Src: 1, Dst: 2, Proto: api.ProtoSctp, Body: whole[:40]}
	echo := ip.PutIcmp(api.Icmp{Type: 8, Body: whole[:9]})
	asked := append(echo, "spare"...)[:len(echo)]
	askedKeep := bytes.Clone(asked[:cap(asked)])
	q := api.Packet{Proto: api.ProtoIcmp, Body: asked}
	calls := map[string]func() []byte{
		"Put":      func() []byte { b, _ := ip.Put(p); return b },
		"Split":    func() []byte { l, _ := ip.Split(p, 60); return l[0].Body },
		"pieces":   func() []byte { l, _ := ip.Split(p, 50); return l[1].Body },
		"PutIcmp":  func() []byte { return ip.PutIcmp(api.Icmp{Body: p.Body}) },
		"Refuse":   func() []byte { r, _ := ip.Refuse(p, 1, 2); return r.Body },
		"Echo":     func() []byte { r, _ := ip.Echo(q); return r.Body },
		"TakeIcmp": func() []byte { x, _ := ip.TakeIcmp(asked); return x.Body },
		"Take":     func() []byte { x, _ := ip.Take(packet(p)); return x.Body },
	}
	for name, call := range calls {
		b, c := call(), call()
		was := bytes.Clone(c)
		if len(b) == 0 {
			t.Fatalf("%s: nothing", name)
		}
		scribble(b)
		if !bytes.Equal(c, was) {
			t.Errorf("%s: two answers share memory", name)
		}
		if !bytes.Equal(whole, keep) || !bytes.Equal(asked[:cap(asked)], askedKeep) {
			t.Fatalf("%s: what was handed in was changed", name)
		}
	}
	bytesOf := append(packet(p), "spare"...)
	keep = bytes.Clone(bytesOf)
	x, _ := ip.Take(bytesOf[:60])
	scribble(x.Body)
	if !bytes.Equal(bytesOf, keep) {
		t.Error("Take: what is answered lies in what was handed in")
	}
}
