package assoc_test

import (
	"bytes"
	"testing"

	"trunkline/api"
	"trunkline/assoc"
	"trunkline/chunk"
)

// drawChunk is a chunk of any kind, of numbers near to those that count.
func drawChunk(draw func() uint64, base uint32) api.Chunk {
	below := func(n uint64) uint64 { return draw() % n }
	near := base + uint32(below(300)) - 20
	switch kind := uint8(below(18)); kind {
	case api.Data:
		return api.Chunk{
			Type: api.Data, Flags: uint8(below(8)), TSN: near, Stream: uint16(below(3)), SSN: uint16(below(6)),
			Data: make([]byte, 1+below(1+below(300))),
		}
	case api.Init, api.InitAck:
		return api.Chunk{
			Type: kind, Tag: uint32(below(3)), Room: uint32(draw()), Outs: uint16(below(4)), Ins: uint16(below(4)), TSN: near,
			Params: []api.Param{{Kind: uint16(6 + below(3)), Value: make([]byte, below(90))}},
		}
	case api.Sack:
		c := sack(uint32(below(30)), int(below(20000)))
		for range below(4) {
			c.Blocks = append(c.Blocks, [2]uint16{uint16(below(9)), uint16(below(9))})
		}
		return c
	case api.Heartbeat, api.HeartbeatAck, api.Error:
		return api.Chunk{Type: kind, Params: []api.Param{{Kind: uint16(1 + below(3)), Value: make([]byte, below(20))}}}
	case api.Abort, api.ShutdownAck, api.ShutdownComplete:
		if below(12) > 0 {
			return of(api.CookieAck)
		}
		return of(kind)
	case api.Shutdown:
		return shutdown(uint32(below(30)))
	case api.CookieAck:
		return of(kind)
	default:
		return api.Chunk{Type: uint8(draw()) | 0x10, Data: make([]byte, below(20))}
	}
}

// wantSane holds an association against what always is so.
func wantSane(t *testing.T, a *assoc.Assoc, mtu, now int) {
	t.Helper()
	closed := a.Stands() == api.Closed
	out, in, inbox := a.Left()
	if out > api.MaxSend || in > api.MaxHeld || inbox >= api.MaxInbox+api.MaxHeld || closed && out+in > 0 {
		t.Fatal("Left", out, in, inbox, a.Stands())
	}
	if at, ok := a.Next(); ok == closed || ok && at < now {
		t.Fatal("Next", at, ok, a.Stands())
	}
	for i := range api.Paths {
		w := way(t, a, i)
		if !closed && (w.Rto < api.MinRto || w.Rto > api.MaxRto || w.Window < mtu || w.Window > 4*api.MaxSend) {
			t.Fatalf("%+v", w)
		}
	}
	own, peer := a.Tags()
	for _, s := range a.Pull() {
		h, l, e := chunk.Take(s.Bytes)
		if e != api.OK || len(s.Bytes)+api.HeadIP > mtu || s.Way < 0 || s.Way >= api.Paths || h.To != a.Peer() {
			t.Fatal("sent", e, len(s.Bytes), brief(s))
		}
		first := l[0].Type == api.Init
		if first && (h.Tag != 0 || l[0].Tag != own) || !first && peer != 0 && h.Tag != peer {
			t.Fatal("sent", brief(l), h)
		}
	}
}

// P1, T5: whatever a peer with the right tag sends, all calls end, nothing grows beyond its limit, and it ends once.
func TestHostilePeer(t *testing.T) {
	ended := 0
	for seed := range uint64(300) {
		draw := draws(seed)
		a := open(t, asker)
		if seed%4 > 0 {
			a, _ = meet(t, asker, asked)
		}
		now, ends := start, 0
		for range 300 {
			switch draw() % 8 {
			case 0:
				now += int(draw() % 20)
				wantErr(t, "Tick", a.Tick(now, draw()), api.OK)
			case 1:
				a.Send(api.Msg{Stream: uint16(draw() % 3), Free: draw()%2 == 0, Data: make([]byte, 1+draw()%600)})
			case 2:
				a.Recv()
			case 3:
				if draw()%100 == 0 {
					a.Shutdown()
				}
			default:
				var l []api.Chunk
				for range 1 + draw()%3 {
					l = append(l, drawChunk(draw, madeTSN))
				}
				b, e := chunk.Put(api.Head{From: 5, To: 9, Tag: startTag}, l)
				wantErr(t, "Put", e, api.OK)
				a.Take(b, int(draw()%2), now)
			}
			wantSane(t, a, asker.Mtu, now)
			if n, e := a.Notice(); e == api.OK && n != api.Came {
				ends++
			}
		}
		if ends > 1 || (ends == 1) != (a.Stands() == api.Closed) {
			t.Fatal(seed, "it ended", ends, "times")
		}
		ended += ends
	}
	if ended < 50 || ended > 299 {
		t.Fatal("ended:", ended)
	}
}

// P1, P16.11: whatever bytes come, calls end; without the right tag nothing changes.
func TestStrangers(t *testing.T) {
	draw := draws(5)
	a, p := meet(t, asker, asked)
	l := listen(t, asked)
	send(t, a, "one")
	good := a.Pull()[0].Bytes
	for range 20000 {
		b := bytes.Clone(good)
		switch draw() % 4 {
		case 0:
			b = drawBytes(draw, int(draw()%100))
		case 1:
			b[draw()%uint64(len(b))] ^= byte(1 + draw()%255)
		default:
			h := api.Head{From: 9, To: 5, Tag: madeTag ^ 1<<(draw()%32)}
			b, _ = chunk.Put(h, []api.Chunk{drawChunk(draw, startTSN), drawChunk(draw, startTSN)})
			if len(b) == 0 {
				t.Fatal("a packet")
			}
		}
		if e := p.Take(b, int(draw()%2), start); e == api.OK {
			t.Fatalf("taken: %x", b)
		}
		if l.Twice(p, b, int(draw()%2), start) {
			t.Fatalf("a cookie: %x", b)
		}
		if q, e := l.Echo(b, int(draw()%2), start); q != nil || e == api.OK {
			t.Fatalf("an association: %x", b)
		}
		l.Init(b, start, draw())
	}
	wantState(t, p, api.Established)
	wantLeft(t, p, 0, 0, 0)
	wantPull(t, p)
	wantNotices(t, p)
	wantNext(t, p, start+100)
	wantErr(t, "Take", p.Take(good, 0, start), api.OK)
	wantTold(t, p, "one")
}

// roomy is bytes with spare room behind them, and asks whether all of it is as it was.
func roomy(b []byte) ([]byte, func() bool) {
	whole := append(bytes.Clone(b), "spare room behind"...)
	was := bytes.Clone(whole)
	return whole[:len(b)], func() bool { return bytes.Equal(whole, was) }
}

func scribble(b []byte) {
	for i := range b {
		b[i] ^= 0xff
	}
}

// P3: what is handed in stays as it is, and is not kept; what is answered is new memory.
func TestMemory(t *testing.T) {
	key, asWas := roomy([]byte(secret))
	l, _ := assoc.Listen(asked, key)
	a := open(t, asker)
	ask, askAsWas := roomy(a.Pull()[0].Bytes)
	answer, _ := l.Init(ask, start, tellDraw)
	kept := bytes.Clone(answer)
	if !asWas() || !askAsWas() {
		t.Fatal("changed")
	}
	scribble(key)
	scribble(ask)
	back, backAsWas := roomy(answer)
	wantErr(t, "Take", a.Take(back, 0, start), api.OK)
	if !backAsWas() {
		t.Fatal("changed")
	}
	scribble(back)
	scribble(answer)
	echo, echoAsWas := roomy(a.Pull()[0].Bytes)
	p, e := l.Echo(echo, 0, start)
	if e != api.OK || !echoAsWas() || !l.Twice(p, echo, 0, start) || !echoAsWas() {
		t.Fatal("changed", e)
	}
	scribble(echo)
	if again, _ := l.Init(packet(t, 9, 5, 0, api.Chunk{Type: api.Init, Tag: startTag, Room: 16384, Outs: 3, Ins: 3, TSN: startTSN}), start, tellDraw); !bytes.Equal(again, kept) {
		t.Fatal("another answer")
	}
	tick(t, a, start+30) // the cookie goes out once more
	wantErr(t, "Take", a.Take(p.Pull()[0].Bytes, 0, start+30), api.OK)
	if q, e := l.Echo(a.Pull()[0].Bytes, 0, start+30); q == nil || e != api.OK {
		t.Fatal("the cookie is another one", e)
	}
	data, dataAsWas := roomy([]byte("message"))
	wantErr(t, "Send", a.Send(api.Msg{Data: data}), api.OK)
	if !dataAsWas() {
		t.Fatal("changed")
	}
	scribble(data)
	out := a.Pull()
	wantErr(t, "Take", p.Take(out[0].Bytes, 0, start+30), api.OK)
	want := bytes.Clone(out[0].Bytes)
	scribble(out[0].Bytes)
	tick(t, a, start+90)
	if again := a.Pull(); len(again) != 1 || !bytes.Equal(again[0].Bytes, want) {
		t.Fatal("what is sent again is another one")
	}
	wantTold(t, p, "message")
}

// P3: an inbox keeps nothing of what was taken from it.
func TestInboxIsNew(t *testing.T) {
	_, p := meet(t, asker, asked)
	toMade(t, p, 0, start, piece(1, 0, "one"), piece(2, 1, "two"), piece(3, 2, "three"))
	m, _ := p.Recv()
	m.Data = append(m.Data, "and more than there was"...)
	scribble(m.Data)
	wantTold(t, p, "two", "three")
}
