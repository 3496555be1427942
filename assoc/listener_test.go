package assoc_test

import (
	"bytes"
	"math"
	"testing"

	"trunkline/api"
	"trunkline/assoc"
	"trunkline/chunk"
	"trunkline/cookie"
)

func packet(t *testing.T, from, to uint16, tag uint32, chunks ...api.Chunk) []byte {
	t.Helper()
	return sent{0, api.Head{From: from, To: to, Tag: tag}, chunks}.bytes(t)
}

func initOf(tag uint32, outs, ins uint16) api.Chunk {
	return api.Chunk{Type: api.Init, Tag: tag, Room: 4000, Outs: outs, Ins: ins, TSN: 50}
}

func seal(t *testing.T, key string, c api.Cookie) api.Chunk {
	t.Helper()
	b, e := cookie.New([]byte(key)).Seal(c)
	wantErr(t, "Seal", e, api.OK)
	return api.Chunk{Type: api.CookieEcho, Data: b}
}

// right is a cookie that the listener of these tests would have made.
func right() api.Cookie {
	return api.Cookie{
		Made: start, Life: api.MaxLife, Port: 5, PeerPort: 9, Tag: madeTag, PeerTag: startTag,
		TSN: madeTSN, PeerTSN: startTSN, Room: 16384, Outs: 3, Ins: 3,
	}
}

// P16.1: who may listen.
func TestListen(t *testing.T) {
	for _, s := range wrongSides() {
		if l, e := assoc.Listen(s, nil); l != nil || e != api.ErrArg {
			t.Errorf("Listen(%+v): error %d", s, e)
		}
	}
	for _, s := range []api.Side{{Port: 1, Streams: 1, Mtu: 192}, {Port: 65535, PeerPort: 3, Streams: 8, Mtu: 1500}} {
		if l, e := assoc.Listen(s, nil); l == nil || e != api.OK {
			t.Errorf("Listen(%+v): error %d", s, e)
		}
	}
}

// P16.2: the answer to one who asks, and the cookie that is in it.
func TestInit(t *testing.T) {
	s := asked
	s.PeerPort = 77 // counts for nothing
	l := listen(t, s)
	for _, now := range []int{0, start, api.MaxTick - api.MaxLife} {
		b, e := l.Init(packet(t, 9, 5, 0, initOf(startTag, 6, 4)), now, 0xabcdef0100000010)
		wantErr(t, "Init", e, api.OK)
		h, chunks, e := chunk.Take(b)
		wantErr(t, "Take", e, api.OK)
		if h != (api.Head{From: 5, To: 9, Tag: startTag}) || len(chunks) != 1 || len(chunks[0].Params) != 1 {
			t.Fatalf("%+v %s", h, brief(chunks))
		}
		c := chunks[0]
		p := c.Params[0]
		c.Params = nil
		if brief(c) != brief(api.Chunk{Type: api.InitAck, Tag: 0x11, Room: 16384, Outs: 2, Ins: 2, TSN: 0xabcdef01}) || p.Kind != 7 {
			t.Fatal(brief(c), p.Kind)
		}
		k, e := cookie.New([]byte(secret)).Open(p.Value, now)
		want := api.Cookie{
			Made: now, Life: 600, Port: 5, PeerPort: 9, Tag: 0x11, PeerTag: startTag,
			TSN: 0xabcdef01, PeerTSN: 50, Room: 4000, Outs: 4, Ins: 6,
		}
		if e != api.OK || k != want {
			t.Fatalf("%+v, error %d", k, e)
		}
	}
}

// P16.2: the errors of who asks, in their order: each packet has all faults behind its first one.
func TestInitErrors(t *testing.T) {
	var none *assoc.Listener
	l := listen(t, asked)
	bad := []byte("no packet at all, none")
	two := []api.Chunk{initOf(0, 0, 0), initOf(0, 0, 0)}
	for _, x := range []struct {
		l    *assoc.Listener
		b    []byte
		now  int
		want api.Errno
	}{
		{none, bad, -1, api.ErrNil},
		{l, bad, -1, api.ErrArg},
		{l, bad, math.MinInt, api.ErrArg},
		{l, bad, api.MaxTick - api.MaxLife + 1, api.ErrArg},
		{l, bad, math.MaxInt, api.ErrArg},
		{l, nil, 0, api.ErrShort},
		{l, bad, 0, api.ErrSum},
		{l, packet(t, 9, 6, 1, two...), 0, api.ErrPort},
		{l, packet(t, 0, 5, 1, two...), 0, api.ErrPort},
		{l, packet(t, 9, 5, 1, two...), 0, api.ErrType},
		{l, packet(t, 9, 5, 1, of(api.CookieAck)), 0, api.ErrType},
		{l, packet(t, 9, 5, 0, initOf(3, 1, 1), of(api.CookieAck)), 0, api.ErrType},
		{l, packet(t, 9, 5, 1, initOf(3, 0, 0)), 0, api.ErrTag},
		{l, packet(t, 9, 5, 0, initOf(0, 0, 0)), 0, api.ErrTag},
		{l, packet(t, 9, 5, 0, initOf(3, 0, 1)), 0, api.ErrStream},
		{l, packet(t, 9, 5, 0, initOf(3, 1, 0)), 0, api.ErrStream},
	} {
		if b, e := x.l.Init(x.b, x.now, 1); len(b) > 0 || e != x.want {
			t.Errorf("Init(%x, %d): %x, error %d; want %d", x.b, x.now, b, e, x.want)
		}
	}
}

// P16.11: a listener answers the same, whatever it was asked ahead.
func TestListenerKeepsNothing(t *testing.T) {
	fresh, tired := listen(t, asked), listen(t, asked)
	draw := draws(1)
	for range 1000 {
		b, e := tired.Init(packet(t, uint16(draw())|1, 5, 0, initOf(uint32(draw())|1, 1, 1)), int(draw()%100), draw())
		wantErr(t, "Init", e, api.OK)
		wantErr(t, "Take", open(t, asker).Take(b, 0, start), api.ErrPort)
	}
	b := packet(t, 9, 5, 0, initOf(3, 1, 1))
	x, _ := fresh.Init(b, 20, 5)
	y, _ := tired.Init(b, 20, 5)
	if !bytes.Equal(x, y) || len(x) == 0 {
		t.Fatal("another answer")
	}
	p, e := tired.Echo(packet(t, 9, 5, madeTag, seal(t, secret, right())), 1, start)
	wantErr(t, "Echo", e, api.OK)
	q, e := tired.Echo(packet(t, 9, 5, madeTag, seal(t, secret, right())), 1, start)
	wantErr(t, "Echo", e, api.OK)
	if p == q || brief(pull(t, p)) != brief(pull(t, q)) {
		t.Fatal("another association")
	}
}

// P16.3: the association of a cookie.
func TestEcho(t *testing.T) {
	l := listen(t, asked)
	c := right()
	c.Outs, c.Ins, c.Room = 1, 7, 3
	for w := range 2 {
		for _, now := range []int{start, start + 600} {
			p, e := l.Echo(packet(t, 9, 5, madeTag, seal(t, secret, c)), w, now)
			wantErr(t, "Echo", e, api.OK)
			wantState(t, p, api.Established)
			wantPull(t, p, fromMade(w, of(api.CookieAck)))
			wantNotices(t, p, api.Came)
			if own, peer := p.Tags(); own != madeTag || peer != startTag || p.Peer() != 9 {
				t.Fatal("of others:", own, peer, p.Peer())
			}
			wantNext(t, p, now+100)
			wantErr(t, "Send", p.Send(api.Msg{Stream: 1, Data: []byte("x")}), api.ErrStream)
			send(t, p, "one", "two")
			// The peer has room for three bytes.
			wantPull(t, p, fromMade(0, piece(madeTSN, 0, "one")))
			toMade(t, p, 0, now, piece(startTSN, 0, "in"))
			wantTold(t, p, "in")
			wantErr(t, "Tick", p.Tick(now-1, 0), api.ErrTick)
		}
	}
}

// P16.3: chunks behind the cookie are taken, too; an Abort among them ends what began.
func TestEchoWithMore(t *testing.T) {
	l := listen(t, asked)
	echo := seal(t, secret, right())
	p, e := l.Echo(packet(t, 9, 5, madeTag, echo, piece(startTSN+1, 1, "two"), piece(startTSN, 0, "one"), of(api.Heartbeat)), 1, start)
	wantErr(t, "Echo", e, api.OK)
	wantTold(t, p, "one", "two")
	wantPull(t, p, fromMade(1, of(api.CookieAck)), fromMade(1, of(api.HeartbeatAck)), fromMade(1, sack(startTSN+1, 16384)))
	p, e = l.Echo(packet(t, 9, 5, madeTag, echo, of(api.Abort), piece(startTSN, 0, "one")), 1, start)
	wantErr(t, "Echo", e, api.OK)
	wantState(t, p, api.Closed)
	wantNotices(t, p, api.Came, api.Aborted)
	wantTold(t, p)
}

// P16.3: the errors of a cookie, in their order.
func TestEchoErrors(t *testing.T) {
	var none *assoc.Listener
	l := listen(t, asked)
	bad := []byte("no packet at all, none")
	good := seal(t, secret, right())
	elsewhere := right()
	elsewhere.Port = 6
	another := right()
	another.PeerPort = 8
	short := good
	short.Data = good.Data[1:]
	for _, x := range []struct {
		l      *assoc.Listener
		b      []byte
		w, now int
		want   api.Errno
	}{
		{none, bad, -1, -1, api.ErrNil},
		{l, bad, -1, -1, api.ErrArg},
		{l, bad, 0, api.MaxTick - api.MaxLife + 1, api.ErrArg},
		{l, bad, -1, start, api.ErrSum},
		{l, packet(t, 9, 6, 1, of(api.CookieAck)), -1, start, api.ErrPort},
		{l, packet(t, 0, 5, 1, of(api.CookieAck)), -1, start, api.ErrPort},
		{l, packet(t, 9, 5, 1, of(api.CookieAck)), -1, start, api.ErrArg},
		{l, packet(t, 9, 5, 1, of(api.CookieAck)), 2, start, api.ErrArg},
		{l, packet(t, 9, 5, 1, of(api.CookieAck), good), 0, start, api.ErrType},
		{l, packet(t, 9, 5, 1, short), 0, start, api.ErrForm},
		{l, packet(t, 9, 5, 1, seal(t, "another", right())), 0, start, api.ErrSum},
		{l, packet(t, 9, 5, 1, seal(t, secret, elsewhere)), 0, start - 1, api.ErrStale},
		{l, packet(t, 9, 5, 1, seal(t, secret, elsewhere)), 0, start + 601, api.ErrStale},
		{l, packet(t, 9, 5, 1, seal(t, secret, elsewhere)), 0, start, api.ErrTag},
		{l, packet(t, 9, 5, madeTag, seal(t, secret, elsewhere)), 0, start, api.ErrPort},
		{l, packet(t, 9, 5, madeTag, seal(t, secret, another)), 0, start, api.ErrPort},
	} {
		if p, e := x.l.Echo(x.b, x.w, x.now); p != nil || e != x.want {
			t.Errorf("Echo(%x, %d, %d): error %d; want %d", x.b, x.w, x.now, e, x.want)
		}
	}
}

// P16.1: the keys' Turn: the former secret opens yet, the one ahead of it does not.
func TestTurn(t *testing.T) {
	var none *assoc.Listener
	wantErr(t, "Turn", none.Turn(nil), api.ErrNil)
	l := listen(t, asked)
	b := packet(t, 9, 5, madeTag, seal(t, secret, right()))
	for _, want := range []api.Errno{api.OK, api.OK, api.ErrSum} {
		_, e := l.Echo(b, 0, start)
		wantErr(t, "Echo", e, want)
		wantErr(t, "Turn", l.Turn([]byte("another")), api.OK)
	}
	answer, e := l.Init(packet(t, 9, 5, 0, initOf(3, 1, 1)), start, 1)
	wantErr(t, "Init", e, api.OK)
	_, chunks, _ := chunk.Take(answer)
	if _, e := cookie.New([]byte("another")).Open(chunks[0].Params[0].Value, start); e != api.OK {
		t.Fatal("not sealed by the current one", e)
	}
}

// P16.3: a cookie that comes once more to the association that it made.
func TestTwice(t *testing.T) {
	l := listen(t, asked)
	b := packet(t, 9, 5, madeTag, seal(t, secret, right()))
	p, _ := l.Echo(b, 0, start)
	p.Pull()
	p.Notice()
	if !l.Twice(p, packet(t, 9, 5, madeTag, seal(t, secret, right()), piece(startTSN, 0, "one")), 1, start+3) {
		t.Fatal("not its own")
	}
	wantPull(t, p, fromMade(1, of(api.CookieAck)))
	wantTold(t, p, "one")
	wantNotices(t, p)
	wantErr(t, "Tick", p.Tick(start+2, 0), api.ErrTick)
	tick(t, p, start+5)
	wantPull(t, p, fromMade(1, sack(startTSN, 16384)))
	wantErr(t, "Shutdown", p.Shutdown(), api.OK)
	p.Pull()
	if !l.Twice(p, b, 0, start+6) {
		t.Fatal("not while it is shut down")
	}
	wantPull(t, p, fromMade(0, of(api.CookieAck)))
	wantState(t, p, api.ShutdownSent)
	// One that comes with an earlier tick does not turn time back.
	if !l.Twice(p, b, 0, start) {
		t.Fatal("not its own")
	}
	wantErr(t, "Tick", p.Tick(start+5, 0), api.ErrTick)
}

// P16.3: what is no such packet changes nothing of an association.
func TestNotTwice(t *testing.T) {
	l := listen(t, asked)
	good := seal(t, secret, right())
	b := packet(t, 9, 5, madeTag, good)
	p, _ := l.Echo(b, 0, start)
	p.Pull()
	other, stranger := right(), right()
	other.Tag++
	stranger.PeerTag++
	for _, x := range []struct {
		b      []byte
		w, now int
	}{
		{nil, 0, start},
		{b[:len(b)-1], 0, start},
		{b, 2, start},
		{b, -1, start},
		{b, 0, -1},
		{b, 0, start + 601},
		{b, 0, api.MaxTick},
		{packet(t, 9, 5, madeTag+1, good), 0, start},
		{packet(t, 9, 5, madeTag, of(api.CookieAck), good), 0, start},
		{packet(t, 8, 5, madeTag, good), 0, start},
		{packet(t, 9, 5, madeTag+1, seal(t, secret, other)), 0, start},
		{packet(t, 9, 5, madeTag, seal(t, secret, stranger)), 0, start},
		{packet(t, 9, 5, madeTag, seal(t, "another", right())), 0, start},
	} {
		if l.Twice(p, x.b, x.w, x.now) {
			t.Errorf("Twice(%x, %d, %d)", x.b, x.w, x.now)
		}
		wantPull(t, p)
		wantNext(t, p, start+100)
	}
	a, _, _ := echoed(t, asker, asked)
	var none *assoc.Listener
	for _, x := range []*assoc.Assoc{nil, open(t, asker), a} {
		if l.Twice(x, b, 0, start) || none.Twice(x, b, 0, start) {
			t.Error("of none")
		}
	}
	if none.Twice(p, b, 0, start) {
		t.Error("by none")
	}
	p.Abort()
	p.Pull()
	if l.Twice(p, b, 0, start) {
		t.Error("of one that ended")
	}
	wantPull(t, p)
}
