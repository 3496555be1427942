package host_test

import (
	"bytes"
	"testing"

	"trunkline/api"
	"trunkline/ether"
	"trunkline/ip"
)

func ping(id uint16, body []byte) api.Packet {
	return api.Packet{Src: 11, Dst: 10, Proto: api.ProtoIcmp, TTL: 9, ID: id, Body: ip.PutIcmp(api.Icmp{Type: 8, Rest: 5, Body: body})}
}

// P17.3: frames that cannot be read, and those that are for others.
func TestFramesThatAreNotTaken(t *testing.T) {
	arp, _ := ether.PutArp(api.Arp{Op: 1, FromMac: far, FromIP: 11, ToIP: 10})
	body, _ := ip.Put(ping(1, nil))
	frame := func(to uint64, kind uint16, body []byte) []byte {
		b, e := ether.Put(api.Ether{To: to, From: far, Kind: kind, Body: body})
		wantErr(t, "a frame", e, api.OK)
		return b
	}
	turned := bytes.Clone(body)
	turned[8]++
	stranger := ping(1, nil)
	stranger.Dst = 20
	elsewhere, _ := ip.Put(stranger)
	short := framed(t, 0, api.KindIP, nil)
	low := bytes.Clone(short)
	low[12], low[13] = 5, 0xff
	for i, x := range []struct {
		b    []byte
		want api.Counts
	}{
		{short[:13], api.Counts{Bad: 1}},
		{low, api.Counts{Bad: 1}},
		{frame(2, api.KindArp, arp), api.Counts{Alien: 1}},
		{frame(2, api.KindIP, body), api.Counts{Alien: 1}},
		{frame(far, api.KindIP, body), api.Counts{Alien: 1}},
		{frame(1, 0x86dd, body), api.Counts{Alien: 1}},
		{frame(2, 0x86dd, nil), api.Counts{Alien: 1}},
		{frame(1, api.KindArp, arp[:27]), api.Counts{Bad: 1}},
		{frame(1, api.KindArp, body), api.Counts{Bad: 1}},
		{frame(2, api.KindArp, nil), api.Counts{Alien: 1}}, // it is not for the card, whatever it is
		{frame(1, api.KindIP, arp), api.Counts{Bad: 1}},
		{frame(1, api.KindIP, turned), api.Counts{Bad: 1}},
		{frame(1, api.KindIP, body[:19]), api.Counts{Bad: 1}},
		{frame(1, api.KindIP, elsewhere), api.Counts{Alien: 1}},
	} {
		h := newHost(t, config())
		feed(t, h, 1, 0, x.b)
		if got := h.Count(); got != x.want {
			t.Errorf("%d: %+v; want %+v", i, got, x.want)
		}
		wantUsed(t, h, 0, 0, 0)
		if len(h.Near(0)) != 0 {
			t.Errorf("%d: a neighbour", i)
		}
	}
}

// P17.3: those for everybody are for the card, too.
func TestFramesForEverybody(t *testing.T) {
	h := newHost(t, config())
	arp, _ := ether.PutArp(api.Arp{Op: 1, FromMac: far, FromIP: 11, ToIP: 10})
	body, _ := ip.Put(ping(1, nil))
	a, _ := ether.Put(api.Ether{To: api.Everybody, From: far, Kind: api.KindArp, Body: arp})
	b, _ := ether.Put(api.Ether{To: api.Everybody, From: far, Kind: api.KindIP, Body: body})
	feed(t, h, 1, 0, a, b)
	if l := outs(t, h, 0); len(l) != 2 {
		t.Fatal("answers:", len(l))
	}
	wantCounts(t, h, api.Counts{})
}

// P17.3: questions are answered, by the card that they came to; answers let what waits go.
func TestArp(t *testing.T) {
	h := newHost(t, config())
	feed(t, h, 1, 1, arpFrame(t, 1, api.Arp{Op: 1, FromMac: far, FromIP: 21, ToIP: 20}))
	if l := outs(t, h, 0); len(l) != 0 {
		t.Fatal("the other card answers", l)
	}
	l := outs(t, h, 1)
	if len(l) != 1 {
		t.Fatal("answers:", len(l))
	}
	x, _ := ether.Take(l[0])
	a, e := ether.TakeArp(x.Body)
	if e != api.OK || x.To != far || x.From != 2 || a != (api.Arp{Op: 2, FromMac: 2, FromIP: 20, ToMac: far, ToIP: 21}) {
		t.Fatalf("an answer: %+v, %+v", x, a)
	}

	feed(t, h, 2, 0, packetFrame(t, 0, ping(4, []byte("one"))), packetFrame(t, 0, ping(5, []byte("two"))))
	if l := outs(t, h, 0); len(l) != 1 {
		t.Fatal("a question:", len(l))
	}
	feed(t, h, 3, 0, arpFrame(t, 0, api.Arp{Op: 2, FromMac: far, FromIP: 11, ToMac: 1, ToIP: 10}))
	if l := packets(t, h, 0); len(l) != 2 || l[0].ID != 4 || l[1].ID != 5 {
		t.Fatal("what waited:", l)
	}
	wantCounts(t, h, api.Counts{})

	// One that has the card's own address is refused by the cache: it is none that could not be read.
	feed(t, h, 4, 0, arpFrame(t, 0, api.Arp{Op: 1, FromMac: far, FromIP: 10, ToIP: 10}))
	wantCounts(t, h, api.Counts{})
	if l := outs(t, h, 0); len(l) != 0 || len(h.Near(0)) != 1 {
		t.Fatal("one with its own address", l)
	}
}

// P17.3: an echo goes back to whoever asked.
func TestEcho(t *testing.T) {
	h := newHost(t, config())
	meetNeighbours(t, h, 1)
	feed(t, h, 2, 0, packetFrame(t, 0, ping(77, []byte("ping"))))
	l := packets(t, h, 0)
	if len(l) != 1 {
		t.Fatal("echoes:", len(l))
	}
	want, _ := ip.Echo(ping(77, []byte("ping")))
	if p := l[0]; p.Src != 10 || p.Dst != 11 || p.ID != 77 || p.TTL != api.TTL || p.Dont || !bytes.Equal(p.Body, want.Body) {
		t.Fatalf("an echo: %+v", p)
	}
	// Messages that are no question, or none at all, have no echo.
	answer, _ := ip.Echo(ping(1, nil))
	answer.Src, answer.Dst = 11, 10
	bad := ping(1, nil)
	bad.Body[3]++
	feed(t, h, 3, 0, packetFrame(t, 0, answer), packetFrame(t, 0, bad))
	if l := outs(t, h, 0); len(l) != 0 {
		t.Fatal("echoes:", len(l))
	}
	wantCounts(t, h, api.Counts{})
	// A stranger is asked for, and answered.
	p := ping(5, nil)
	p.Src = 99
	feed(t, h, 4, 0, packetFrame(t, 0, p))
	if l := h.Near(0); len(l) != 2 || l[1] != (api.Neighbour{IP: 99, Pending: 1}) {
		t.Fatal("near:", l)
	}
}

// P17.3: pieces are put together, and what is longer than Mtu leaves in pieces.
func TestPieces(t *testing.T) {
	h := newHost(t, config())
	meetNeighbours(t, h, 1)
	whole := ping(7, bytes.Repeat([]byte("abcdefg"), 60))
	pieces, e := ip.Split(whole, 200)
	wantErr(t, "Split", e, api.OK)
	for i := len(pieces) - 1; i > 0; i-- {
		feed(t, h, 2, 0, packetFrame(t, 0, pieces[i]))
		wantUsed(t, h, 0, 1, 0)
	}
	feed(t, h, 3, 0, packetFrame(t, 0, pieces[0]))
	wantUsed(t, h, 0, 0, len(pieces))
	want, _ := ip.Echo(whole)
	var body []byte
	l := packets(t, h, 0)
	for i, p := range l {
		if p.Off != len(body) || p.More != (i < len(l)-1) || p.ID != 7 {
			t.Fatalf("a piece: %+v", p)
		}
		body = append(body, p.Body...)
	}
	if !bytes.Equal(body, want.Body) {
		t.Fatal("another echo")
	}
	// What the pool refuses is bad.
	clash := pieces[1]
	clash.Body = bytes.Repeat([]byte{1}, len(clash.Body))
	feed(t, h, 4, 0, packetFrame(t, 0, pieces[1]), packetFrame(t, 0, clash))
	wantCounts(t, h, api.Counts{Bad: 1})
	wantUsed(t, h, 0, 0, 0)
	long := api.Packet{Src: 11, Dst: 10, Proto: api.ProtoIcmp, Off: api.MaxDatagram, Body: []byte{1}}
	feed(t, h, 4, 0, packetFrame(t, 0, long))
	wantCounts(t, h, api.Counts{Bad: 2})
	// Pieces to another address are not held.
	astray := pieces[0]
	astray.Dst = 12
	feed(t, h, 4, 0, packetFrame(t, 0, astray))
	wantCounts(t, h, api.Counts{Alien: 1, Bad: 2})
	wantUsed(t, h, 0, 0, 0)
}

// P17.3: what waits for a neighbour is bounded, and what finds no room is counted.
func TestDropped(t *testing.T) {
	h := newHost(t, config())
	for id := range uint16(api.MaxPending + 2) {
		feed(t, h, 1, 0, packetFrame(t, 0, ping(id, nil)))
	}
	wantCounts(t, h, api.Counts{Dropped: 2})
	if l := h.Near(0); len(l) != 1 || l[0].Pending != api.MaxPending {
		t.Fatal("near:", l)
	}
	meet := arpFrame(t, 0, api.Arp{Op: 2, FromMac: far, FromIP: 11, ToMac: 1, ToIP: 10})
	outs(t, h, 0)
	c := config()
	c.Ring = 2
	small := newHost(t, c)
	for id := range uint16(api.MaxPending) {
		feed(t, small, 1, 0, packetFrame(t, 0, ping(id, nil)))
	}
	outs(t, small, 0)
	feed(t, small, 2, 0, meet)
	wantCounts(t, small, api.Counts{Dropped: 2})
	if l := packets(t, small, 0); len(l) != 2 || l[0].ID != 0 || l[1].ID != 1 {
		t.Fatal("what found room:", l)
	}
	feed(t, small, 3, 0, packetFrame(t, 0, ping(8, make([]byte, 172))))
	wantCounts(t, small, api.Counts{Dropped: 2})
	if l := packets(t, small, 0); len(l) != 1 {
		t.Fatal("one of 200 bytes:", len(l))
	}
	feed(t, small, 4, 0, packetFrame(t, 0, ping(9, make([]byte, 400)))) // three pieces
	wantCounts(t, small, api.Counts{Dropped: 3})
}

// P17.3: what nobody knows is refused.
func TestRefuse(t *testing.T) {
	h := newHost(t, config())
	meetNeighbours(t, h, 1)
	p := api.Packet{Src: 11, Dst: 10, Proto: 6, TTL: 3, ID: 8, Body: []byte("0123456789")}
	feed(t, h, 2, 0, packetFrame(t, 0, p))
	want, _ := ip.Refuse(p, 2, 0)
	l := packets(t, h, 0)
	if len(l) != 1 || !bytes.Equal(l[0].Body, want.Body) || l[0].Src != 10 || l[0].Dst != 11 {
		t.Fatalf("refused: %+v", l)
	}
	x, e := ip.TakeIcmp(l[0].Body)
	if e != api.OK || x.Type != 3 || x.Code != 2 || x.Rest != 0 {
		t.Fatalf("refused: %+v", x)
	}
	wantCounts(t, h, api.Counts{})
	wantUsed(t, h, 0, 0, 0)
}

// P17.3: SCTP of another one than the card's peer is stray, and not answered.
func TestSctpOfOthers(t *testing.T) {
	h := newHost(t, config())
	meetNeighbours(t, h, 1)
	listen(t, h, 5)
	b := caller(t, 9, 5, 1).Pull()[0].Bytes
	for i, src := range []uint32{12, 21, 10, 0} { // 21 is the peer of the other card
		feed(t, h, 2, 0, packetFrame(t, 0, api.Packet{Src: src, Dst: 10, Proto: api.ProtoSctp, Body: b}))
		wantCounts(t, h, api.Counts{Stray: i + 1})
	}
	wantSent(t, h, 0)
	feed(t, h, 2, 1, packetFrame(t, 1, api.Packet{Src: 21, Dst: 20, Proto: api.ProtoSctp, Body: b}))
	wantSent(t, h, 0)
	if l := sents(t, h, 1); len(l) != 1 || l[0].chunks[0].Type != api.InitAck {
		t.Fatalf("an answer by the card that it came to: %+v", l)
	}
	wantCounts(t, h, api.Counts{Stray: 4})
}

// P17.4: packets of SCTP are numbered.
func TestIDs(t *testing.T) {
	h := newHost(t, config())
	meetNeighbours(t, h, 1)
	listen(t, h, 5)
	first, n := 0, 0
	for now := range 70000 { // they go round
		feed(t, h, now/1000+2, now%2, chunksFrame(t, now%2, api.Head{From: 9, To: 5}, initOf(7)))
		for _, p := range packets(t, h, now%2) {
			if n == 0 {
				first = int(p.ID)
			}
			if p.ID != uint16(first+n) {
				t.Fatal("ID", p.ID, "; want", uint16(first+n))
			}
			n++
		}
	}
	if n != 70000 {
		t.Fatal("packets:", n)
	}
}
