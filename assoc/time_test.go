package assoc_test

import (
	"math"
	"testing"

	"trunkline/api"
	"trunkline/assoc"
)

// P16.7: the errors of a tick.
func TestTickErrors(t *testing.T) {
	var none *assoc.Assoc
	wantErr(t, "Tick", none.Tick(-1, 0), api.ErrNil)
	a := open(t, asker)
	for _, now := range []int{math.MinInt, -1, api.MaxTick + 1, math.MaxInt} {
		wantErr(t, "Tick", a.Tick(now, 0), api.ErrArg)
	}
	wantErr(t, "Tick", a.Tick(start-1, 0), api.ErrTick)
	wantErr(t, "Tick", a.Tick(start, 0), api.OK)
	wantErr(t, "Tick", a.Tick(start+9, 0), api.OK)
	wantErr(t, "Tick", a.Tick(start+8, 0), api.ErrTick)
	wantErr(t, "Tick", a.Tick(api.MaxTick, 0), api.OK)
	wantErr(t, "Tick", a.Tick(api.MaxTick, 0), api.OK)
	a.Abort()
	wantErr(t, "Tick", a.Tick(api.MaxTick-1, 0), api.ErrTick)
	wantErr(t, "Tick", a.Tick(api.MaxTick, 0), api.OK)
}

// P16.7: what has flown for Rto is sent again, with Late of the way; four times, and all goes by the other way.
func TestSentAgain(t *testing.T) {
	a, _ := meet(t, asker, asked)
	send(t, a, "one", "two")
	both := []api.Chunk{piece(1, 0, "one"), piece(2, 1, "two")}
	wantPull(t, a, fromAsker(0, both...))
	now := start
	for i, rto := range []int{30, 60, 120, 240} {
		wantLeft(t, a, 2, 0, 0)
		now += rto
		tick(t, a, now-1)
		for _, s := range pull(t, a) {
			if s.chunks[0].Type != api.Heartbeat {
				t.Fatal("too soon", brief(s))
			}
		}
		tick(t, a, now)
		l := pull(t, a)
		s := l[len(l)-1]
		if brief(s.chunks) != brief(both) || s.way != i/3 {
			t.Fatal(i, brief(l))
		}
		if w := way(t, a, 0); w.Rto != 2*rto || w.Window != 500 || w.Up != (i < 3) {
			t.Fatalf("%d: %+v", i, w)
		}
		for k, s := range l[:len(l)-1] {
			answer := s.chunks[0]
			answer.Type = api.HeartbeatAck
			if k == 1 { // the second way is good
				toAsker(t, a, 1, now, answer)
			}
		}
	}
	toAsker(t, a, 1, now, sack(2, 16384))
	wantLeft(t, a, 0, 0, 0)
	send(t, a, "three")
	wantPull(t, a, fromAsker(1, piece(3, 2, "three")))
}

// P16.7: Rto counts from when pieces were sent, or others of their way were acknowledged.
func TestSinceWhenPiecesFly(t *testing.T) {
	a, _ := meet(t, asker, asked)
	tick(t, a, start+5)
	send(t, a, "one")
	a.Pull()
	wantNext(t, a, start+35)
	tick(t, a, start+20)
	send(t, a, "two")
	a.Pull()
	wantNext(t, a, start+35) // the first one flies on
	toAsker(t, a, 0, start+25, sack(0, 16384))
	wantNext(t, a, start+35) // nothing was acknowledged
	toAsker(t, a, 0, start+25, sack(1, 16384))
	wantNext(t, a, start+55)
	toAsker(t, a, 0, start+26, sack(2, 16384))
	wantNext(t, a, start+100)
	tick(t, a, start+60)
	send(t, a, "three")
	wantNext(t, a, start+100) // it does not fly yet
	a.Pull()
	wantNext(t, a, start+90)
	// What is overdue is due now.
	toAsker(t, a, 0, start+95, of(api.CookieAck))
	wantNext(t, a, start+95)
	tick(t, a, start+95)
	wantNext(t, a, start+100)
	wantPull(t, a, fromAsker(0, piece(3, 2, "three")))
}

// P16.7: heartbeats each BeatEvery ticks, on each way, of a draw and the tick.
func TestHeartbeats(t *testing.T) {
	const draw, high = 0xf23456789abcdef0, 1 << 63
	a, _ := meet(t, asker, asked)
	wantNext(t, a, start+100)
	wantErr(t, "Tick", a.Tick(start+99, draw), api.OK)
	wantPull(t, a)
	now := start + 103
	wantErr(t, "Tick", a.Tick(now, draw), api.OK)
	first := uint64(draw) ^ uint64(now)
	wantPull(t, a, fromAsker(0, beat(api.Heartbeat, first)), fromAsker(1, beat(api.Heartbeat, first^high)))
	wantNext(t, a, now+100)
	// Of no use are another nonce, the other way's, one of another kind, too short, too long, or none.
	wrong := beat(api.HeartbeatAck, first)
	wrong.Params[0].Kind = 2
	short, long := beat(api.HeartbeatAck, first), beat(api.HeartbeatAck, first)
	short.Params[0].Value = short.Params[0].Value[:7]
	long.Params[0].Value = append(long.Params[0].Value, 0)
	toAsker(t, a, 0, now+4, beat(api.HeartbeatAck, first+1), beat(api.HeartbeatAck, first^high), wrong, short, long, of(api.HeartbeatAck))
	for i := range 2 {
		if w := way(t, a, i); w != (api.Way{Window: 2000, Slow: 8192, Rto: 30, Up: true}) {
			t.Fatalf("%+v", w)
		}
	}
	toAsker(t, a, 0, now+8, beat(api.HeartbeatAck, first))
	if w := way(t, a, 0); w != (api.Way{Window: 2000, Slow: 8192, Rto: 24, Mean: 64, Spread: 16, Up: true, Sure: true}) {
		t.Fatalf("%+v", w)
	}
	// The second way did not answer: Fault.
	now += 100
	wantErr(t, "Tick", a.Tick(now, 7), api.OK)
	second := 7 ^ uint64(now)
	wantPull(t, a, fromAsker(0, beat(api.Heartbeat, second)), fromAsker(1, beat(api.Heartbeat, second^high)))
	if v, w := way(t, a, 0), way(t, a, 1); v.Faults != 0 || w.Faults != 1 || w.Rto != 30 {
		t.Fatalf("%+v, %+v", v, w)
	}
	toAsker(t, a, 1, now, beat(api.HeartbeatAck, first^high))
	if w := way(t, a, 1); w.Faults != 1 {
		t.Fatalf("%+v", w)
	}
	toAsker(t, a, 1, now, beat(api.HeartbeatAck, second^high))
	if w := way(t, a, 1); w.Faults != 0 || !w.Sure {
		t.Fatalf("%+v", w)
	}
}

// P16.7: unanswered heartbeats are faults of their ways and of the association: the ninth one ends it.
func TestHeartbeatsUnanswered(t *testing.T) {
	a, _ := meet(t, asker, asked)
	now := start
	for i := range 5 {
		now += 100
		tick(t, a, now)
		if len(a.Pull()) != 2 {
			t.Fatal("heartbeats")
		}
		for k := range 2 {
			if w := way(t, a, k); w.Faults != i || w.Up != (i < 4) {
				t.Fatalf("%d: %+v", i, w)
			}
		}
	}
	// Where none is up, the first way is in use.
	send(t, a, "one")
	wantPull(t, a, fromAsker(0, piece(1, 0, "one")))
	toAsker(t, a, 0, now, sack(1, 16384))
	if !way(t, a, 0).Up || way(t, a, 1).Up {
		t.Fatal("up")
	}
	// The row of faults began anew: two at a time, the ninth one ends it.
	for range 4 {
		now += 100
		tick(t, a, now)
		wantState(t, a, api.Established)
		a.Pull()
	}
	tick(t, a, now+99)
	wantState(t, a, api.Established)
	tick(t, a, now+100)
	wantNotices(t, a, api.Lost)
	wantPull(t, a)
	wantNoNext(t, a)
}

// P16.7: where Rto is more than BeatEvery, heartbeats wait for it; in which states there are any.
func TestWhenHeartbeats(t *testing.T) {
	a, _ := meet(t, asker, asked)
	send(t, a, "one")
	for _, now := range []int{start, start + 30, start + 90} {
		tick(t, a, now)
		a.Pull()
	}
	if w := way(t, a, 0); w.Rto != 120 {
		t.Fatalf("%+v", w)
	}
	tick(t, a, start+119)
	if l := pull(t, a); len(l) != 1 || l[0].way != 1 {
		t.Fatal(brief(l))
	}
	tick(t, a, start+120)
	if l := pull(t, a); len(l) != 1 || l[0].way != 0 || l[0].chunks[0].Type != api.Heartbeat {
		t.Fatal(brief(l))
	}
	beats := func(a *assoc.Assoc, want int) {
		t.Helper()
		a.Pull()
		tick(t, a, start+100)
		n := 0
		for _, s := range pull(t, a) {
			if s.chunks[0].Type == api.Heartbeat {
				n++
			}
		}
		if n != want {
			t.Fatalf("state %d: %d heartbeats; want %d", a.Stands(), n, want)
		}
	}
	wait, _, _ := echoed(t, asker, asked)
	beats(wait, 0)
	beats(open(t, asker), 0)
	pending, _ := meet(t, asker, asked)
	send(t, pending, "one")
	pending.Shutdown()
	beats(pending, 2)
	sent, _ := meet(t, asker, asked)
	sent.Shutdown()
	beats(sent, 0)
	received, _ := meet(t, asker, asked)
	send(t, received, "one")
	toAsker(t, received, 0, start, shutdown(0))
	beats(received, 2)
	acked, _ := meet(t, asker, asked)
	toAsker(t, acked, 0, start, shutdown(0))
	beats(acked, 0)
}

// P16.7: pieces go on the way in use while its Window is above its Flight, as many in a packet as go into Mtu.
func TestPullPieces(t *testing.T) {
	a, _ := meet(t, asker, asked)
	for range 40 {
		send(t, a, "0123456789") // 26 bytes, and two of padding
	}
	l := pull(t, a)
	if len(l) != 3 || len(l[0].chunks) != 16 || len(l[1].chunks) != 16 || len(l[2].chunks) != 8 {
		t.Fatal(brief(l))
	}
	a, _ = meet(t, asker, asked)
	for range 18 {
		wantErr(t, "Send", a.Send(api.Msg{Data: make([]byte, 452)}), api.OK)
	}
	// 4 times 452 are below 2000, 5 times are not.
	b := a.Pull()
	if len(b) != 5 || len(b[0].Bytes) != 480 {
		t.Fatal(len(b), "packets")
	}
	if len(a.Pull()) != 0 {
		t.Fatal("more than may fly")
	}
	// A window that is just full is not above it.
	narrow := asker
	narrow.Mtu = 192
	a, _ = meet(t, narrow, asked)
	for range 16 {
		wantErr(t, "Send", a.Send(api.Msg{Data: make([]byte, 96)}), api.OK)
	}
	if l := pull(t, a); len(l) != 8 {
		t.Fatal(len(l), "packets") // 768 bytes
	}
}

// P16.7: pieces go as far as the peer has room; one flies at least.
func TestPullWithinRoom(t *testing.T) {
	a, _ := meet(t, asker, asked)
	send(t, a, "one")
	a.Pull()
	toAsker(t, a, 0, start, sack(1, 8))
	send(t, a, "1234", "5678", "x")
	wantPull(t, a, fromAsker(0, piece(2, 1, "1234"), piece(3, 2, "5678")))
	toAsker(t, a, 0, start, sack(2, 0))
	wantPull(t, a)
	toAsker(t, a, 0, start, sack(3, 0))
	wantPull(t, a, fromAsker(0, piece(4, 3, "x")))
	toAsker(t, a, 0, start, sack(3, 0))
	wantPull(t, a)
	tick(t, a, start+30)
	wantPull(t, a, fromAsker(0, piece(4, 3, "x")))
}

// P16.8: what the other calls tell, and what they tell of none.
func TestRest(t *testing.T) {
	a, _ := meet(t, asker, asked)
	for _, i := range []int{math.MinInt, -1, 2, math.MaxInt} {
		if w, e := a.Way(i); e != api.ErrArg || w != (api.Way{}) {
			t.Errorf("Way(%d): error %d", i, e)
		}
	}
	wantErr(t, "Send", a.Send(api.Msg{Stream: 2, Data: []byte("x")}), api.ErrStream)
	wantErr(t, "Send", a.Send(api.Msg{}), api.ErrLimit)
	wantErr(t, "Send", a.Send(api.Msg{Data: make([]byte, 4097)}), api.ErrLimit)
	wantErr(t, "Send", a.Send(api.Msg{Data: make([]byte, 4096)}), api.OK)
	wantErr(t, "Send", a.Send(api.Msg{Data: make([]byte, 4096)}), api.OK)
	wantErr(t, "Send", a.Send(api.Msg{Data: []byte("x")}), api.ErrFull)
	wantLeft(t, a, 20, 0, 0)
	free := piece(madeTSN, 0, "free")
	free.Flags |= api.FlagFree
	free.Stream, free.PPID = 1, 8
	toAsker(t, a, 0, start, free)
	if m, e := a.Recv(); e != api.OK || brief(m) != brief(api.Msg{Stream: 1, PPID: 8, Free: true, Data: []byte("free")}) {
		t.Fatal(brief(m), e)
	}
	if m, e := a.Recv(); e != api.ErrEmpty || brief(m) != brief(api.Msg{}) {
		t.Fatal(brief(m), e)
	}
}

// P1: of nil.
func TestNil(t *testing.T) {
	var a *assoc.Assoc
	wantState(t, a, api.Closed)
	wantErr(t, "Send", a.Send(api.Msg{}), api.ErrNil)
	wantErr(t, "Shutdown", a.Shutdown(), api.ErrNil)
	wantErr(t, "Abort", a.Abort(), api.ErrNil)
	wantErr(t, "Take", a.Take(nil, -1, -1), api.ErrNil)
	wantErr(t, "Tick", a.Tick(-1, 0), api.ErrNil)
	if m, e := a.Recv(); e != api.ErrNil || brief(m) != brief(api.Msg{}) {
		t.Error("Recv", e)
	}
	if n, e := a.Notice(); e != api.ErrNil || n != api.NoNotice {
		t.Error("Notice", e)
	}
	if w, e := a.Way(-1); e != api.ErrNil || w != (api.Way{}) {
		t.Error("Way", e)
	}
	if own, peer := a.Tags(); own != 0 || peer != 0 || a.Peer() != 0 {
		t.Error("Tags", own, peer)
	}
	wantLeft(t, a, 0, 0, 0)
	wantNoNext(t, a)
	wantPull(t, a)
}
