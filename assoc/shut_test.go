package assoc_test

import (
	"testing"

	"trunkline/api"
	"trunkline/assoc"
)

// P16.6: with nothing left to go out: Shutdown, ShutdownAck, ShutdownComplete.
func TestShutdown(t *testing.T) {
	a, p := meet(t, asker, asked)
	toAsker(t, a, 0, start, piece(madeTSN, 0, "one"))
	tick(t, a, start+2)
	a.Pull()
	wantErr(t, "Shutdown", a.Shutdown(), api.OK)
	wantErr(t, "Shutdown", a.Shutdown(), api.ErrState)
	wantErr(t, "Send", a.Send(api.Msg{Data: []byte("x")}), api.ErrState)
	wantState(t, a, api.ShutdownSent)
	wantPull(t, a, fromAsker(0, shutdown(madeTSN)))
	send(t, p, "one")
	p.Pull()
	// It acknowledges its TSN.
	toMade(t, p, 0, start+2, shutdown(madeTSN))
	wantLeft(t, p, 0, 0, 0)
	wantState(t, p, api.ShutdownAckSent)
	wantPull(t, p, fromMade(0, of(api.ShutdownAck)))
	toAsker(t, a, 1, start+3, of(api.ShutdownAck))
	wantState(t, a, api.Closed)
	wantPull(t, a, fromAsker(1, of(api.ShutdownComplete)))
	wantPull(t, a)
	wantNotices(t, a, api.Done)
	wantTold(t, a, "one")
	toMade(t, p, 1, start+3, of(api.ShutdownComplete))
	wantState(t, p, api.Closed)
	wantNotices(t, p, api.Done)
	wantPull(t, p)
	for _, x := range []*assoc.Assoc{a, p} {
		wantNoNext(t, x)
		wantErr(t, "Shutdown", x.Shutdown(), api.ErrState)
		wantErr(t, "Abort", x.Abort(), api.ErrState)
		wantErr(t, "Send", x.Send(api.Msg{Data: []byte("x")}), api.ErrState)
		tick(t, x, start+1000)
		wantNotices(t, x)
		wantPull(t, x)
	}
}

// P16.6: what is left goes out first, at both sides; the side that is told goes on with it, too.
func TestShutdownWithPieces(t *testing.T) {
	a, p := meet(t, asker, asked)
	send(t, a, "one")
	wantErr(t, "Shutdown", a.Shutdown(), api.OK)
	wantState(t, a, api.ShutdownPending)
	wantPull(t, a, fromAsker(0, piece(1, 0, "one")))
	tick(t, a, start+30)
	wantPull(t, a, fromAsker(0, piece(1, 0, "one")))
	send(t, p, "two")
	toAsker(t, a, 0, start+30, sack(0, 16384))
	wantState(t, a, api.ShutdownPending)
	toAsker(t, a, 0, start+30, sack(1, 16384))
	wantState(t, a, api.ShutdownSent)
	wantPull(t, a, fromAsker(0, shutdown(madeTSN-1)))
	toMade(t, p, 0, start+30, piece(1, 0, "one"), shutdown(madeTSN-1))
	wantState(t, p, api.ShutdownReceived)
	wantErr(t, "Send", p.Send(api.Msg{Data: []byte("x")}), api.ErrState)
	wantErr(t, "Shutdown", p.Shutdown(), api.ErrState)
	wantPull(t, p, fromMade(0, piece(madeTSN, 0, "two")))
	// A piece that comes is told, and Shutdown is sent again behind it.
	toAsker(t, a, 0, start+40, piece(madeTSN, 0, "two"))
	wantTold(t, a, "two")
	wantPull(t, a, fromAsker(0, shutdown(madeTSN)))
	wantNext(t, a, start+42)
	tick(t, a, start+42)
	wantPull(t, a, fromAsker(0, sack(madeTSN, 16384)))
	wantNext(t, a, start+40+60) // Rto is 60, as its piece was sent again once
	toMade(t, p, 0, start+42, sack(madeTSN, 16384))
	wantState(t, p, api.ShutdownAckSent)
	wantPull(t, p, fromMade(0, of(api.ShutdownAck)), fromMade(0, sack(1, 16384-3)))
	toAsker(t, a, 0, start+42, of(api.ShutdownAck))
	toMade(t, p, 0, start+42, of(api.ShutdownComplete))
	wantNotices(t, a, api.Done)
	wantNotices(t, p, api.Done)
	wantTold(t, p, "one")
}

// P16.6: each in its turn is sent again each Rto, with a fault: more than MaxRtx are the end.
func TestShutAgain(t *testing.T) {
	a, p := meet(t, asker, asked)
	a.Shutdown()
	for _, x := range []struct {
		a *assoc.Assoc
		s sent
	}{{a, fromAsker(0, shutdown(madeTSN-1))}, {p, fromMade(0, of(api.ShutdownAck))}} {
		if x.a == p {
			toMade(t, p, 0, start, shutdown(madeTSN-1))
		}
		wantPull(t, x.a, x.s)
		wantNext(t, x.a, start+30)
		for range 8 {
			at, _ := x.a.Next()
			tick(t, x.a, at-1)
			wantPull(t, x.a)
			tick(t, x.a, at)
			l := pull(t, x.a)
			if len(l) != 1 || brief(l[0].chunks) != brief(x.s.chunks) {
				t.Fatal(brief(l))
			}
		}
		wantNotices(t, x.a)
		at, _ := x.a.Next()
		tick(t, x.a, at)
		wantNotices(t, x.a, api.Lost)
		wantState(t, x.a, api.Closed)
		wantPull(t, x.a)
	}
}

// P16.5, P16.6: the acknowledgement of the last piece, be it of one byte, ends the row of faults, and its way is good: nine more are the end.
func TestLastPiece(t *testing.T) {
	a, _ := meet(t, asker, asked)
	send(t, a, "x")
	a.Pull()
	a.Shutdown()
	tick(t, a, start+30)
	a.Pull()
	if w := way(t, a, 0); w.Faults != 1 {
		t.Fatalf("%+v", w)
	}
	toAsker(t, a, 0, start+31, sack(1, 16384))
	if w := way(t, a, 0); w.Faults != 0 {
		t.Fatalf("%+v", w)
	}
	for range 9 {
		wantState(t, a, api.ShutdownSent)
		at, _ := a.Next()
		tick(t, a, at)
	}
	wantNotices(t, a, api.Lost)
}

// P16.6: both sides shut down at once.
func TestBothShutDown(t *testing.T) {
	a, p := meet(t, asker, asked)
	a.Shutdown()
	p.Shutdown()
	x, y := a.Pull(), p.Pull()
	wantErr(t, "Take", a.Take(y[0].Bytes, 0, start), api.OK)
	wantErr(t, "Take", p.Take(x[0].Bytes, 0, start), api.OK)
	wantState(t, a, api.ShutdownAckSent)
	wantState(t, p, api.ShutdownAckSent)
	wantPull(t, p, fromMade(0, of(api.ShutdownAck)))
	// One that is done answers, and the other one is done by that.
	toAsker(t, a, 0, start, of(api.ShutdownAck))
	wantNotices(t, a, api.Done)
	wantPull(t, a, fromAsker(0, of(api.ShutdownComplete)))
	toMade(t, p, 0, start, of(api.ShutdownComplete))
	wantNotices(t, p, api.Done)
}

// P16.6: a Shutdown comes while pieces are to go out by its own Shutdown: it waits for them, and then answers.
func TestShutdownMeetsPending(t *testing.T) {
	a, _ := meet(t, asker, asked)
	send(t, a, "one", "two")
	a.Pull()
	a.Shutdown()
	toAsker(t, a, 0, start, shutdown(1))
	wantState(t, a, api.ShutdownReceived)
	wantLeft(t, a, 1, 0, 0)
	wantPull(t, a)
	toAsker(t, a, 0, start, shutdown(1))
	wantState(t, a, api.ShutdownReceived)
	toAsker(t, a, 0, start, shutdown(2))
	wantState(t, a, api.ShutdownAckSent)
	wantPull(t, a, fromAsker(0, of(api.ShutdownAck)))
	other, _ := meet(t, asker, asked)
	send(t, other, "one")
	other.Pull()
	other.Shutdown()
	// The same packet acknowledges the last piece: no Shutdown of its own is needed any more.
	toAsker(t, other, 0, start, shutdown(1))
	wantPull(t, other, fromAsker(0, of(api.ShutdownAck)))
	wantState(t, other, api.ShutdownAckSent)
}

// P16.6: a Shutdown acknowledges up to its TSN and says nothing of what was taken behind a gap.
func TestShutdownKeepsWhatWasTaken(t *testing.T) {
	a, _ := meet(t, asker, asked)
	send(t, a, "one", "two", "three")
	a.Pull()
	toAsker(t, a, 0, start, sack(0, 16384, [2]uint16{2, 3}))
	toAsker(t, a, 0, start, shutdown(0))
	wantState(t, a, api.ShutdownReceived)
	wantPull(t, a)
	tick(t, a, start+30)
	wantPull(t, a, fromAsker(0, piece(1, 0, "one")))
	// What was never sent it can't acknowledge.
	toAsker(t, a, 0, start+30, shutdown(7))
	wantLeft(t, a, 3, 0, 0)
}

// P16.6: nor does it where its TSN goes on: what was taken behind it is not sent again.
func TestShutdownGoesOn(t *testing.T) {
	a, _ := meet(t, asker, asked)
	send(t, a, "one", "two", "three", "four", "five", "six", "seven")
	a.Pull()
	toAsker(t, a, 0, start, sack(0, 16384, [2]uint16{2, 3}, [2]uint16{5, 5}, [2]uint16{7, 7}))
	toAsker(t, a, 0, start, shutdown(3))
	wantLeft(t, a, 4, 0, 0)
	wantPull(t, a)
	tick(t, a, start+30)
	wantPull(t, a, fromAsker(0, piece(4, 3, "four"), piece(6, 5, "six")))
	toAsker(t, a, 0, start+31, shutdown(5))
	wantLeft(t, a, 2, 0, 0)
	wantPull(t, a)
	toAsker(t, a, 0, start+31, shutdown(7))
	wantState(t, a, api.ShutdownAckSent)
}

// P16.6: what does not belong to a state changes nothing in it.
func TestShutInOtherStates(t *testing.T) {
	chunks := []api.Chunk{of(api.ShutdownAck), of(api.ShutdownComplete)}
	waits := open(t, asker)
	waits.Pull()
	toAsker(t, waits, 0, start, append(chunks, shutdown(0))...)
	wantState(t, waits, api.CookieWait)
	wantPull(t, waits)
	a, _, _ := echoed(t, asker, asked)
	toAsker(t, a, 0, start, append(chunks, shutdown(0))...)
	wantState(t, a, api.CookieEchoed)
	wantPull(t, a)
	a, _ = meet(t, asker, asked)
	toAsker(t, a, 0, start, chunks...)
	wantState(t, a, api.Established)
	send(t, a, "one")
	a.Pull()
	a.Shutdown()
	toAsker(t, a, 0, start, chunks...)
	wantState(t, a, api.ShutdownPending)
	toAsker(t, a, 0, start, sack(1, 16384))
	a.Pull()
	toAsker(t, a, 0, start, of(api.ShutdownComplete))
	wantState(t, a, api.ShutdownSent)
	a, _ = meet(t, asker, asked)
	send(t, a, "one")
	a.Pull()
	toAsker(t, a, 0, start, append([]api.Chunk{shutdown(0)}, chunks...)...)
	wantState(t, a, api.ShutdownReceived)
	wantPull(t, a)
	wantNotices(t, a)
}

// P16.5, P16.6: a ShutdownComplete of one who has nothing any more bears the tag that it was sent.
func TestBorrowedTag(t *testing.T) {
	a, _ := meet(t, asker, asked)
	toAsker(t, a, 0, start, shutdown(0))
	a.Pull()
	c := api.Chunk{Type: api.ShutdownComplete, Flags: 1}
	wantErr(t, "Take", a.Take(packet(t, 5, 9, startTag, c), 0, start), api.ErrTag)
	wantErr(t, "Take", a.Take(packet(t, 5, 9, madeTag, c), 0, start), api.OK)
	wantNotices(t, a, api.Done)
}

// P16.6: Abort: the other side is told, if its tag is known, on the way in use.
func TestAbort(t *testing.T) {
	waits := open(t, asker)
	wantErr(t, "Abort", waits.Abort(), api.OK)
	wantNotices(t, waits, api.Aborted)
	wantPull(t, waits)
	a, _, _ := echoed(t, asker, asked)
	wantErr(t, "Abort", a.Abort(), api.OK)
	wantPull(t, a, fromAsker(0, of(api.Abort)))
	a, p := meet(t, asker, asked)
	send(t, a, "one")
	toAsker(t, a, 0, start, piece(madeTSN, 0, "in"), piece(madeTSN+2, 2, "far"), of(api.Heartbeat))
	wantErr(t, "Abort", a.Abort(), api.OK)
	wantErr(t, "Abort", a.Abort(), api.ErrState)
	wantNotices(t, a, api.Aborted)
	wantLeft(t, a, 0, 0, 1)
	wantState(t, a, api.Closed)
	// All is freed but what came; and the tags say which one it was.
	if own, peer := a.Tags(); own != startTag || peer != madeTag || a.Peer() != 5 {
		t.Fatal("tags", own, peer)
	}
	s := a.Pull()
	wantErr(t, "Take", p.Take(s[0].Bytes, s[0].Way, start), api.OK)
	if len(s) != 1 || s[0].Way != 0 {
		t.Fatal(len(s), "packets")
	}
	wantNotices(t, p, api.Aborted)
	wantTold(t, a, "in")
	down, _ := meet(t, asker, asked)
	send(t, down, "one")
	now := start
	for way(t, down, 0).Up {
		down.Pull()
		now, _ = down.Next()
		tick(t, down, now)
	}
	down.Pull()
	wantErr(t, "Abort", down.Abort(), api.OK)
	wantPull(t, down, fromAsker(1, of(api.Abort)))
}

// P16.8: Replace ends it with Again, once.
func TestReplace(t *testing.T) {
	a, _ := meet(t, asker, asked)
	toAsker(t, a, 0, start, piece(madeTSN, 0, "in"))
	send(t, a, "out")
	a.Replace()
	wantState(t, a, api.Closed)
	wantLeft(t, a, 0, 0, 1)
	a.Replace()
	wantNotices(t, a, api.Again)
	wantPull(t, a)
	wantTold(t, a, "in")
	var none *assoc.Assoc
	none.Replace()
}
