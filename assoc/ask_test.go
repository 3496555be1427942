package assoc_test

import (
	"math"
	"testing"

	"trunkline/api"
	"trunkline/assoc"
)

// wrongSides are settings that are not right.
func wrongSides() []api.Side {
	right := api.Side{Port: 9, PeerPort: 5, Streams: 3, Mtu: 500}
	var l []api.Side
	for _, n := range []int{math.MinInt, -1, 0, 9, math.MaxInt} {
		s := right
		s.Streams = n
		l = append(l, s)
	}
	for _, n := range []int{math.MinInt, -1, 0, 191, 1501, math.MaxInt} {
		s := right
		s.Mtu = n
		l = append(l, s)
	}
	right.Port = 0
	return append(l, right)
}

// P16.1: who may ask.
func TestOpenArgs(t *testing.T) {
	wantNone := func(s api.Side, now int) {
		t.Helper()
		if a, e := assoc.Open(s, now, 1); a != nil || e != api.ErrArg {
			t.Errorf("Open(%+v, %d): error %d", s, now, e)
		}
	}
	for _, s := range wrongSides() {
		wantNone(s, 0)
	}
	for _, now := range []int{math.MinInt, -1, api.MaxTick + 1, math.MaxInt} {
		wantNone(asker, now)
	}
	wantNone(api.Side{Port: 9, Streams: 3, Mtu: 500}, 0)
	for _, s := range []api.Side{{Port: 1, PeerPort: 1, Streams: 1, Mtu: 192}, {Port: 65535, PeerPort: 65535, Streams: 8, Mtu: 1500}} {
		for _, now := range []int{0, api.MaxTick} {
			if a, e := assoc.Open(s, now, 1); a == nil || e != api.OK {
				t.Errorf("Open(%+v, %d): error %d", s, now, e)
			}
		}
	}
}

// P16.1, P16.4: one that asks: of which tag and TSN it is, and what it sends.
func TestOpen(t *testing.T) {
	for _, x := range []struct {
		draw     uint64
		tag, tsn uint32
	}{{0, 1, 0}, {askDraw, 7, 1}, {math.MaxUint64, math.MaxUint32, math.MaxUint32}, {0xdeadbeef00000002, 3, 0xdeadbeef}} {
		a, e := assoc.Open(asker, start, x.draw)
		wantErr(t, "Open", e, api.OK)
		wantState(t, a, api.CookieWait)
		if own, peer := a.Tags(); own != x.tag || peer != 0 || a.Peer() != 5 {
			t.Fatalf("tags %d, %d", own, peer)
		}
		wantNext(t, a, start+30)
		wantPull(t, a, sent{0, api.Head{From: 9, To: 5}, []api.Chunk{{Type: api.Init, Tag: x.tag, Room: 16384, Outs: 3, Ins: 3, TSN: x.tsn}}})
		wantPull(t, a)
		wantNotices(t, a)
		wantTold(t, a)
		wantLeft(t, a, 0, 0, 0)
		wantErr(t, "Send", a.Send(api.Msg{Data: []byte("x")}), api.ErrState)
		wantErr(t, "Shutdown", a.Shutdown(), api.ErrState)
	}
}

// P16.4: it asks again when Rto has passed, on the way in use, with Late of the way and a fault each time; more than MaxTries: it is lost.
func TestAskAgain(t *testing.T) {
	a := open(t, asker)
	ask := pull(t, a)[0]
	for _, x := range []struct{ wait, way, rto int }{{30, 0, 60}, {60, 0, 120}, {120, 0, 240}, {240, 1, 480}, {30, 1, 60}} {
		at, _ := a.Next()
		tick(t, a, at-1)
		wantPull(t, a)
		tick(t, a, at)
		ask.way = x.way
		wantPull(t, a, ask)
		last := 0
		if x.wait == 30 && x.way == 1 {
			last = 1
		}
		if w := way(t, a, last); w.Rto != x.rto {
			t.Fatalf("way %d: %+v", last, w)
		}
		wantNext(t, a, at+way(t, a, x.way).Rto)
		wantState(t, a, api.CookieWait)
	}
	if w := way(t, a, 0); w.Up || w.Faults != 4 || w.Window != 500 {
		t.Fatalf("way 0: %+v", w)
	}
	wantNotices(t, a)
	at, _ := a.Next()
	tick(t, a, at)
	wantState(t, a, api.Closed)
	wantNotices(t, a, api.Lost)
	wantPull(t, a)
	wantNoNext(t, a)
	wantLeft(t, a, 0, 0, 0)
}

func initAck(tag uint32, outs, ins uint16, params ...api.Param) api.Chunk {
	return api.Chunk{Type: api.InitAck, Tag: tag, Room: 777, Outs: outs, Ins: ins, TSN: madeTSN, Params: params}
}

func cookieOf(n int) api.Param { return api.Param{Kind: 7, Value: make([]byte, n)} }

// P16.4: an InitAck that lacks something is no answer; one that does not is, by its first cookie that may be.
func TestInitAck(t *testing.T) {
	other := api.Param{Kind: 8, Value: []byte("x")}
	for _, c := range []api.Chunk{
		initAck(0, 1, 1, cookieOf(4)), initAck(madeTag, 0, 1, cookieOf(4)), initAck(madeTag, 1, 0, cookieOf(4)),
		initAck(madeTag, 1, 1), initAck(madeTag, 1, 1, other), initAck(madeTag, 1, 1, cookieOf(0)), initAck(madeTag, 1, 1, cookieOf(513)),
	} {
		a := open(t, asker)
		a.Pull()
		toAsker(t, a, 0, start, c)
		wantState(t, a, api.CookieWait)
		wantPull(t, a)
		if own, peer := a.Tags(); own != startTag || peer != 0 {
			t.Fatalf("tags %d, %d", own, peer)
		}
		wantNext(t, a, start+30)
	}
	for _, n := range []int{1, 84, 436} {
		a := open(t, asker)
		a.Pull()
		toAsker(t, a, 1, start+5, initAck(madeTag, 1, 1, other, cookieOf(0), cookieOf(n), cookieOf(2)))
		wantState(t, a, api.CookieEchoed)
		if own, peer := a.Tags(); own != startTag || peer != madeTag {
			t.Fatalf("tags %d, %d", own, peer)
		}
		wantPull(t, a, fromAsker(0, api.Chunk{Type: api.CookieEcho, Data: make([]byte, n)}))
		wantNext(t, a, start+35)
		wantErr(t, "Send", a.Send(api.Msg{Data: []byte("x")}), api.ErrState)
		wantNotices(t, a)
	}
}

// P16.4, P16.7: a cookie may have 512 bytes; where its packet would be longer than Mtu it is not sent.
func TestLongCookie(t *testing.T) {
	wide := asker
	wide.Mtu = 548
	for _, s := range []api.Side{asker, wide} {
		a := open(t, s)
		a.Pull()
		toAsker(t, a, 0, start, initAck(madeTag, 1, 1, cookieOf(512)))
		wantState(t, a, api.CookieEchoed)
		if n := len(a.Pull()); n != s.Mtu/548 {
			t.Fatalf("Mtu %d: %d packets", s.Mtu, n)
		}
	}
}

// P16.4: in CookieEchoed it asks with the cookie; faults go on being counted.
func TestEchoAgain(t *testing.T) {
	a := open(t, asker)
	tick(t, a, start+30)
	tick(t, a, start+90)
	a.Pull()
	toAsker(t, a, 0, start+100, initAck(madeTag, 2, 2, cookieOf(8)))
	echo := fromAsker(0, api.Chunk{Type: api.CookieEcho, Data: make([]byte, 8)})
	wantPull(t, a, echo)
	now := start + 100
	for _, x := range []struct{ wait, way int }{{120, 0}, {240, 1}, {30, 1}} {
		now += x.wait
		tick(t, a, now-1)
		wantPull(t, a)
		tick(t, a, now)
		echo.way = x.way
		wantPull(t, a, echo)
	}
	tick(t, a, now+60)
	wantNotices(t, a, api.Lost)
	wantState(t, a, api.Closed)
}

// P16.4: a second InitAck changes nothing; a CookieAck is the end of asking, and of nothing else.
func TestCookieAck(t *testing.T) {
	a := open(t, asker)
	a.Pull()
	toAsker(t, a, 0, start, of(api.CookieAck))
	wantState(t, a, api.CookieWait)
	toAsker(t, a, 0, start, initAck(madeTag, 2, 2, cookieOf(8)))
	a.Pull()
	toAsker(t, a, 0, start, initAck(99, 2, 2, cookieOf(9)))
	wantPull(t, a)
	if _, peer := a.Tags(); peer != madeTag {
		t.Fatal("another tag", peer)
	}
	toAsker(t, a, 0, start+7, of(api.CookieAck))
	wantState(t, a, api.Established)
	wantNotices(t, a, api.Came)
	wantPull(t, a)
	wantNext(t, a, start+107)
	toAsker(t, a, 0, start+8, of(api.CookieAck), initAck(99, 2, 2, cookieOf(9)))
	wantState(t, a, api.Established)
	wantNotices(t, a)
	wantPull(t, a)
}

// P16.4: a cookie that is stale: it is asked for anew. Other causes, and causes in other states, are none.
func TestStaleCookie(t *testing.T) {
	causes := func(kinds ...uint16) api.Chunk {
		c := of(api.Error)
		for _, k := range kinds {
			c.Params = append(c.Params, api.Param{Kind: k, Value: []byte{0, 0, 0, 1}})
		}
		return c
	}
	a := open(t, asker)
	ask := pull(t, a)[0]
	toAsker(t, a, 0, start, causes(3))
	wantState(t, a, api.CookieWait)
	wantPull(t, a)
	toAsker(t, a, 0, start, initAck(madeTag, 2, 2, cookieOf(8)))
	a.Pull()
	toAsker(t, a, 0, start+1, causes(), causes(6, 3))
	wantState(t, a, api.CookieEchoed)
	wantPull(t, a)
	toAsker(t, a, 0, start+2, causes(3, 6))
	wantState(t, a, api.CookieWait)
	wantPull(t, a, ask)
	wantNext(t, a, start+32)
	if own, peer := a.Tags(); own != startTag || peer != 0 {
		t.Fatalf("tags %d, %d", own, peer)
	}
	toAsker(t, a, 0, start+3, initAck(55, 2, 2, cookieOf(8)), of(api.CookieAck), causes(3))
	wantState(t, a, api.Established)
	if _, peer := a.Tags(); peer != 55 {
		t.Fatalf("tag %d", peer)
	}
}

// The words of an association: streams are the least of three numbers, pieces are as long as Mtu lets them be.
func TestStreamsAndPieces(t *testing.T) {
	for _, x := range []struct {
		own       int
		outs, ins uint16
		want      uint16
	}{{3, 9, 2, 2}, {3, 2, 9, 2}, {3, 5, 6, 3}, {1, 8, 8, 1}, {8, 65535, 65535, 8}} {
		s := asker
		s.Streams = x.own
		a := open(t, s)
		toAsker(t, a, 0, start, initAck(madeTag, x.outs, x.ins, cookieOf(8)), of(api.CookieAck))
		wantErr(t, "Send", a.Send(api.Msg{Stream: x.want - 1, Data: []byte("x")}), api.OK)
		wantErr(t, "Send", a.Send(api.Msg{Stream: x.want, Data: []byte("x")}), api.ErrStream)
	}
	for _, x := range []struct{ mtu, size int }{{192, 144}, {193, 144}, {195, 144}, {196, 148}, {500, 452}, {1500, 1452}} {
		s := asker
		s.Mtu = x.mtu
		a, _ := meet(t, s, asked)
		wantErr(t, "Send", a.Send(api.Msg{Data: make([]byte, 2*x.size+1)}), api.OK)
		wantLeft(t, a, 3, 0, 0)
		l := pull(t, a)
		if len(l) != 3 || len(l[0].chunks) != 1 || len(l[0].chunks[0].Data) != x.size || len(l[2].chunks[0].Data) != 1 {
			t.Fatalf("Mtu %d: %s", x.mtu, brief(l))
		}
	}
}
