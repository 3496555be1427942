package ip_test

import (
	"bytes"
	"encoding/binary"
	"encoding/hex"
	"math"
	"testing"

	"trunkline/api"
	"trunkline/ip"
)

// message is the bytes that a message is to be.
func message(x api.Icmp) []byte {
	b := []byte{x.Type, x.Code, 0, 0}
	b = binary.BigEndian.AppendUint32(b, x.Rest)
	b = append(b, x.Body...)
	binary.BigEndian.PutUint16(b[2:], netSum(b))
	return b
}

func sameIcmp(a, b api.Icmp) bool {
	return a.Type == b.Type && a.Code == b.Code && a.Rest == b.Rest && bytes.Equal(a.Body, b.Body)
}

func wantPutIcmp(t *testing.T, x api.Icmp, want []byte) {
	t.Helper()
	if b := ip.PutIcmp(x); !bytes.Equal(b, want) {
		t.Errorf("PutIcmp(%s): % .30x; want % .30x", brief(x), b, want)
	}
}

func wantTakeIcmp(t *testing.T, name string, b []byte, want api.Icmp, wantErr api.Errno) {
	t.Helper()
	if x, e := ip.TakeIcmp(b); e != wantErr || !sameIcmp(x, want) {
		t.Errorf("%s: TakeIcmp: %s, error %d; want %s, error %d", name, brief(x), e, brief(want), wantErr)
	}
}

func wantEcho(t *testing.T, name string, p, want api.Packet, wantOk bool) {
	t.Helper()
	if q, ok := ip.Echo(p); ok != wantOk || !same(q, want) {
		t.Errorf("%s: Echo: %s, %v; want %s, %v", name, brief(q), ok, brief(want), wantOk)
	}
}

func wantRefuse(t *testing.T, name string, p api.Packet, code, mtu int, want api.Packet, wantErr api.Errno) {
	t.Helper()
	if q, e := ip.Refuse(p, code, mtu); e != wantErr || !same(q, want) {
		t.Errorf("%s: Refuse(%d, %d): %s, error %d; want %s, error %d", name, code, mtu, brief(q), e, brief(want), wantErr)
	}
}

// P10.4, PutIcmp: by hand, and where all is 0.
func TestPutIcmp(t *testing.T) {
	want, _ := hex.DecodeString("0800" + "929a" + "00010002" + "61620400")
	wantPutIcmp(t, api.Icmp{Type: 8, Rest: 0x00010002, Body: []byte{0x61, 0x62, 4, 0}}, want)
	wantPutIcmp(t, api.Icmp{}, []byte{0, 0, 0xff, 0xff, 0, 0, 0, 0})
	wantPutIcmp(t, api.Icmp{Type: 255, Code: 254, Rest: math.MaxUint32}, []byte{255, 254, 0, 1, 255, 255, 255, 255})
	wantPutIcmp(t, api.Icmp{Type: 1, Code: 2, Rest: 0x03040506, Body: []byte{7}}, message(api.Icmp{Type: 1, Code: 2, Rest: 0x03040506, Body: []byte{7}}))
	great := api.Icmp{Type: 8, Body: bytes.Repeat([]byte{0xff, 1, 2}, 50000)}
	wantPutIcmp(t, great, message(great))
	wantTakeIcmp(t, "a great one", message(great), great, api.OK)
}

// P10.8: TakeIcmp of PutIcmp is the message.
func TestTakeIcmpOfPutIcmp(t *testing.T) {
	draw := draws(108)
	for range 3000 {
		x := api.Icmp{Type: uint8(draw()), Code: uint8(draw()), Rest: uint32(draw()), Body: drawBytes(draw, int(draw()%40))}
		wantPutIcmp(t, x, message(x))
		b := ip.PutIcmp(x)
		wantTakeIcmp(t, "TakeIcmp of PutIcmp", b, x, api.OK)
		b[draw()%uint64(len(b))] ^= 1 << (draw() % 8)
		wantTakeIcmp(t, "turned", b, api.Icmp{}, api.ErrSum)
	}
}

// P10.4, TakeIcmp: fewer than eight bytes, ahead of a wrong sum; all bytes count for the sum.
func TestTakeIcmpRefuses(t *testing.T) {
	b := message(api.Icmp{Type: 8, Code: 1, Rest: 7})
	for n := range 8 {
		wantTakeIcmp(t, "short", b[:n], api.Icmp{}, api.ErrShort)
		wantTakeIcmp(t, "short, all bits", bytes.Repeat([]byte{255}, n), api.Icmp{}, api.ErrShort)
	}
	wantTakeIcmp(t, "nil", nil, api.Icmp{}, api.ErrShort)
	wantTakeIcmp(t, "just eight", b, api.Icmp{Type: 8, Code: 1, Rest: 7}, api.OK)
	wantTakeIcmp(t, "zeros", make([]byte, 8), api.Icmp{}, api.ErrSum)
	wantTakeIcmp(t, "one byte more", append(bytes.Clone(b), 1), api.Icmp{}, api.ErrSum)
	wantTakeIcmp(t, "a 0 more", append(bytes.Clone(b), 0), api.Icmp{Type: 8, Code: 1, Rest: 7, Body: []byte{0}}, api.OK)
}

// asking is a packet that asks for an echo.
func asking(body string) api.Packet {
	return api.Packet{Src: 11, Dst: 22, Proto: 1, TTL: 3, ID: 77, Body: message(api.Icmp{Type: 8, Rest: 0x12345678, Body: []byte(body)})}
}

// P10.4, Echo: the answer, by what it is to be.
func TestEcho(t *testing.T) {
	for _, body := range []string{"", "p", "ping", string(make([]byte, 2000))} {
		p := asking(body)
		want := api.Packet{Src: 22, Dst: 11, Proto: 1, TTL: 64, ID: 77, Body: message(api.Icmp{Rest: 0x12345678, Body: []byte(body)})}
		wantEcho(t, "a question", p, want, true)
		p.Dont = true
		wantEcho(t, "one that is not to be cut", p, want, true)
		wantEcho(t, "an answer", want, api.Packet{}, false)
	}
}

// P10.4, Echo: what is no question.
func TestEchoOfNone(t *testing.T) {
	p := asking("ping")
	p.Off = 8
	wantEcho(t, "Off", p, api.Packet{}, false)
	p.Off = -8
	wantEcho(t, "an Off that may not be", p, api.Packet{}, false)
	p = asking("ping")
	p.More = true
	wantEcho(t, "More", p, api.Packet{}, false)
	for _, proto := range []uint8{0, 2, 17, 132, 255} {
		p = asking("ping")
		p.Proto = proto
		wantEcho(t, "Proto", p, api.Packet{}, false)
	}
	p = asking("ping")
	p.Body[9] ^= 1
	wantEcho(t, "a wrong sum", p, api.Packet{}, false)
	p.Body = asking("").Body[:7]
	wantEcho(t, "short", p, api.Packet{}, false)
	p.Body = nil
	wantEcho(t, "no Body", p, api.Packet{}, false)
	wantEcho(t, "nothing", api.Packet{}, api.Packet{}, false)
	for kind := range 256 {
		for _, code := range []uint8{0, 1, 8, 255} {
			p.Body = message(api.Icmp{Type: uint8(kind), Code: code, Body: []byte("x")})
			if kind != 8 || code != 0 {
				wantEcho(t, "a message", p, api.Packet{}, false)
			}
		}
	}
}

// P10.8: Echo of an answer is none.
func TestEchoOfEcho(t *testing.T) {
	draw := draws(118)
	for range 500 {
		p := drawPacket(draw)
		p.Proto, p.Off, p.More = 1, 0, false
		p.Body = message(api.Icmp{Type: 8, Rest: uint32(draw()), Body: p.Body})
		q, ok := ip.Echo(p)
		if !ok {
			t.Fatalf("none: %s", brief(p))
		}
		wantEcho(t, "an answer", q, api.Packet{}, false)
	}
}

// refusal is the packet that tells who sent p that it is not taken.
func refusal(p api.Packet, code, mtu int) api.Packet {
	quote := packet(p)
	quote = quote[:min(28, len(quote))]
	x := api.Icmp{Type: 3, Code: uint8(code), Rest: uint32(mtu), Body: quote}
	return api.Packet{Src: p.Dst, Dst: p.Src, Proto: 1, TTL: 64, Body: message(x)}
}

// P10.5, Refuse: what is told, whatever p is; the first eight bytes of its Body, or all.
func TestRefuse(t *testing.T) {
	draw := draws(105)
	for range 1000 {
		p := drawPacket(draw)
		p.Off = 0
		if p.Proto == 1 {
			p.Proto = 17
		}
		code, mtu := int(draw()%16), int(draw()%65536)
		wantRefuse(t, "a packet", p, code, mtu, refusal(p, code, mtu), api.OK)
	}
	for size := range 12 {
		p := api.Packet{Src: 1, Dst: 2, Proto: 132, TTL: 9, ID: 5, Dont: true, Body: []byte("0123456789ab")[:size]}
		want := refusal(p, 4, 1500)
		if len(want.Body) != 8+20+min(size, 8) {
			t.Fatalf("%d bytes of a Body of %d", len(want.Body), size)
		}
		wantRefuse(t, "a short one", p, 4, 1500, want, api.OK)
	}
}

// P10.5, Refuse: codes and mtus at the edges.
func TestRefuseOfNumbers(t *testing.T) {
	p := api.Packet{Src: 1, Dst: 2, Proto: 132, Body: []byte("0123456789")}
	for _, code := range []int{0, 1, 15} {
		for _, mtu := range []int{0, 1, 28, 65534, 65535} {
			wantRefuse(t, "numbers", p, code, mtu, refusal(p, code, mtu), api.OK)
		}
	}
	for _, code := range []int{-1, 16, 256, math.MinInt, math.MaxInt} {
		wantRefuse(t, "a code", p, code, 0, api.Packet{}, api.ErrArg)
	}
	for _, mtu := range []int{-1, 65536, 1 << 32, math.MinInt, math.MaxInt} {
		wantRefuse(t, "an mtu", p, 0, mtu, api.Packet{}, api.ErrArg)
	}
}

// P10.5, Refuse: of messages only those that begin with 0 or 8.
func TestRefuseOfMessages(t *testing.T) {
	for kind := range 256 {
		p := api.Packet{Src: 1, Dst: 2, Proto: 1, Body: []byte{byte(kind), 5}}
		if kind == 0 || kind == 8 {
			wantRefuse(t, "a message", p, 2, 0, refusal(p, 2, 0), api.OK)
		} else {
			wantRefuse(t, "a message", p, 2, 0, api.Packet{}, api.ErrType)
		}
		p.Proto = 2
		wantRefuse(t, "no message", p, 2, 0, refusal(p, 2, 0), api.OK)
	}
	wantRefuse(t, "no Body", api.Packet{Proto: 1}, 2, 0, api.Packet{}, api.ErrType)
	p := api.Packet{Proto: 17}
	wantRefuse(t, "no Body, of another one", p, 2, 0, refusal(p, 2, 0), api.OK)
	wantRefuse(t, "a refusal", refusal(p, 2, 0), 2, 0, api.Packet{}, api.ErrType)
}

// P10.5, Refuse: the first piece may be refused, others not.
func TestRefuseOfPieces(t *testing.T) {
	p := api.Packet{Src: 1, Dst: 2, Proto: 132, More: true, Body: make([]byte, 16)}
	wantRefuse(t, "the first", p, 1, 2, refusal(p, 1, 2), api.OK)
	for _, off := range []int{8, 16, 65480} {
		p.Off = off
		wantRefuse(t, "another", p, 1, 2, api.Packet{}, api.ErrType)
	}
}

// P10.5 and P2, Refuse: Put's errors first, then the numbers, then the type.
func TestRefuseTellsTheFirstError(t *testing.T) {
	wantRefuse(t, "Off", api.Packet{Off: 4, Body: make([]byte, 65536)}, -1, -1, api.Packet{}, api.ErrArg)
	wantRefuse(t, "Off", api.Packet{Off: -8}, 0, 0, api.Packet{}, api.ErrArg)
	wantRefuse(t, "More", api.Packet{More: true, Body: make([]byte, 9)}, 0, 0, api.Packet{}, api.ErrArg)
	wantRefuse(t, "a limit", api.Packet{Body: make([]byte, 65516)}, -1, -1, api.Packet{}, api.ErrLimit)
	wantRefuse(t, "a limit, and a piece", api.Packet{Off: 65520}, 99, 0, api.Packet{}, api.ErrLimit)
	wantRefuse(t, "a code, and a piece", api.Packet{Off: 8}, 16, 0, api.Packet{}, api.ErrArg)
	wantRefuse(t, "an mtu, and no Body", api.Packet{Proto: 1}, 0, 65536, api.Packet{}, api.ErrArg)
	wantRefuse(t, "a piece", api.Packet{Off: 8}, 15, 0, api.Packet{}, api.ErrType)
}
