package host_test

import (
	"testing"

	"trunkline/api"
	"trunkline/host"
)

var noSockets = []int{0, -1, 9, 1 << 62, -1 << 63}

// P17.5, example 1: numbers are handed out, the least free one first; a port once.
func TestBind(t *testing.T) {
	h := newHost(t, config())
	if n, e := h.Bind(5); n != 1 || e != api.OK {
		t.Fatal("Bind", n, e)
	}
	for _, port := range []uint16{5, 0} {
		if n, e := h.Bind(port); n != 0 || e != api.ErrPort {
			t.Fatal("Bind", port, n, e)
		}
	}
	for i := 2; i <= api.MaxSocks; i++ {
		if id := bind(t, h, uint16(i+10)); id != i {
			t.Fatal("Bind", id)
		}
	}
	wantUsed(t, h, api.MaxSocks, 0, 0)
	if n, e := h.Bind(100); n != 0 || e != api.ErrFull {
		t.Fatal("Bind", n, e)
	}
	if n, e := h.Bind(5); n != 0 || e != api.ErrPort { // named first
		t.Fatal("Bind", n, e)
	}
	wantErr(t, "Close", h.Close(4), api.OK)
	wantErr(t, "Close", h.Close(2), api.OK)
	if id := bind(t, h, 65535); id != 2 {
		t.Fatal("Bind", id)
	}
	if id := bind(t, h, 12); id != 4 { // its port is free again
		t.Fatal("Bind", id)
	}
}

// P17.5: a port is taken in whichever way its socket stands.
func TestBindOfATakenPort(t *testing.T) {
	h, _, id := joined(t)
	connect(t, h, 6, 7, 1)
	for _, port := range []uint16{5, 6} {
		_, e := h.Bind(port)
		wantErr(t, "Bind", e, api.ErrPort)
	}
	wantErr(t, "Close", h.Close(1), api.OK)
	_, e := h.Bind(5) // the one that was accepted has it yet
	wantErr(t, "Bind", e, api.ErrPort)
	wantErr(t, "Close", h.Close(id), api.OK)
	bind(t, h, 5)
}

// P17.5: a number that was not handed out, or is closed.
func TestGone(t *testing.T) {
	h := newHost(t, config())
	id := bind(t, h, 5)
	wantErr(t, "Close", h.Close(id), api.OK)
	for _, n := range append(noSockets, id, 8) {
		wantGone(t, h, n)
	}
	wantUsed(t, h, 0, 0, 0)
}

func wantGone(t *testing.T, h *host.Host, id int) {
	t.Helper()
	wantErr(t, "Listen", h.Listen(id), api.ErrGone)
	wantErr(t, "Connect", h.Connect(id, 0, 1), api.ErrGone)
	n, e := h.Accept(id)
	wantErr(t, "Accept", e, api.ErrGone)
	wantErr(t, "Send", h.Send(id, api.Msg{}), api.ErrGone)
	m, e := h.Recv(id)
	wantErr(t, "Recv", e, api.ErrGone)
	x, e := h.Notice(id)
	wantErr(t, "Notice", e, api.ErrGone)
	wantErr(t, "Shutdown", h.Shutdown(id), api.ErrGone)
	wantErr(t, "Abort", h.Abort(id), api.ErrGone)
	s, e := h.State(id)
	wantErr(t, "State", e, api.ErrGone)
	own, peer, e := h.Tags(id)
	wantErr(t, "Tags", e, api.ErrGone)
	wantErr(t, "Close", h.Close(id), api.ErrGone)
	if n != 0 || m.Data != nil || x != 0 || s != 0 || own != 0 || peer != 0 {
		t.Fatal("something beside an error")
	}
}

// wantUnlinked: are calls of a linked socket refused?
func wantUnlinked(t *testing.T, h *host.Host, id int) {
	t.Helper()
	wantErr(t, "Send", h.Send(id, api.Msg{Data: []byte{1}}), api.ErrState)
	m, e := h.Recv(id)
	wantErr(t, "Recv", e, api.ErrState)
	x, e := h.Notice(id)
	wantErr(t, "Notice", e, api.ErrState)
	wantErr(t, "Shutdown", h.Shutdown(id), api.ErrState)
	wantErr(t, "Abort", h.Abort(id), api.ErrState)
	s, e := h.State(id)
	wantErr(t, "State", e, api.ErrState)
	own, peer, e := h.Tags(id)
	wantErr(t, "Tags", e, api.ErrState)
	if m.Data != nil || x != 0 || s != 0 || own != 0 || peer != 0 {
		t.Fatal("something beside an error")
	}
}

// P17.5: what may be done with a socket hangs on how it stands.
func TestStates(t *testing.T) {
	h, _, made := joined(t)
	wantUnlinked(t, h, 1)
	wantErr(t, "Listen", h.Listen(1), api.ErrState)
	wantErr(t, "Connect", h.Connect(1, 0, 1), api.ErrState) // named ahead of ErrPort

	id := bind(t, h, 6)
	wantUnlinked(t, h, id)
	_, e := h.Accept(id)
	wantErr(t, "Accept", e, api.ErrState)
	wantErr(t, "Connect", h.Connect(id, 0, 1), api.ErrPort)
	wantErr(t, "Connect", h.Connect(id, 7, 1), api.OK)

	for _, linked := range []int{id, made} {
		wantErr(t, "Listen", h.Listen(linked), api.ErrState)
		wantErr(t, "Connect", h.Connect(linked, 7, 1), api.ErrState)
		_, e := h.Accept(linked)
		wantErr(t, "Accept", e, api.ErrState)
	}
	wantState(t, h, id, api.CookieWait)
	own, peer, e := h.Tags(id)
	if wantErr(t, "Tags", e, api.OK); own != 1 || peer != 0 {
		t.Fatal("tags", own, peer)
	}
}

// P17.5: a linked socket's calls are its association's.
func TestLinked(t *testing.T) {
	w, id := linkedTwo(t)
	a, b := w.hosts[0], w.hosts[1]
	wantErr(t, "no bytes", a.Send(1, api.Msg{}), api.ErrLimit)
	wantErr(t, "too many", a.Send(1, api.Msg{Data: make([]byte, api.MaxMsg+1)}), api.ErrLimit)
	wantErr(t, "no stream", a.Send(1, api.Msg{Stream: 2, Data: []byte{1}}), api.ErrStream)
	_, e := a.Recv(1)
	wantErr(t, "Recv", e, api.ErrEmpty)
	_, e = a.Notice(1)
	wantErr(t, "Notice", e, api.ErrEmpty)
	wantErr(t, "Send", a.Send(1, api.Msg{Stream: 1, PPID: 6, Free: true, Data: []byte("one")}), api.OK)
	wantErr(t, "Send", b.Send(id, api.Msg{Data: []byte("two")}), api.OK)
	wantErr(t, "two halves", a.Send(1, api.Msg{Data: make([]byte, api.MaxMsg)}), api.OK)
	wantErr(t, "full", a.Send(1, api.Msg{Data: make([]byte, api.MaxMsg)}), api.ErrFull)
	w.calm(t, 200)
	m, e := b.Recv(id)
	if wantErr(t, "Recv", e, api.OK); m.Stream != 1 || m.PPID != 6 || !m.Free || string(m.Data) != "one" {
		t.Fatal("told", m)
	}
	wantTold(t, a, 1, "two")
	ownA, peerA, _ := a.Tags(1)
	ownB, peerB, _ := b.Tags(id)
	if ownA != peerB || ownB != peerA || ownA != 77 {
		t.Fatal("tags", ownA, peerA, ownB, peerB)
	}
	wantErr(t, "Shutdown", a.Shutdown(1), api.OK)
	wantErr(t, "Shutdown", a.Shutdown(1), api.ErrState)
	wantErr(t, "Send", a.Send(1, api.Msg{Data: []byte{1}}), api.ErrState)
	w.calm(t, 5)
	wantNotices(t, a, 1, api.Done)
	wantNotices(t, b, id, api.Done)
	wantErr(t, "Abort", a.Abort(1), api.ErrState)
	wantState(t, a, 1, api.Closed)
	wantTold(t, b, id, string(make([]byte, api.MaxMsg))) // what came is there yet
}

// P17.5: Abort is the association's: its packet goes with the next Step.
func TestAbort(t *testing.T) {
	w, id := linkedTwo(t)
	wantErr(t, "Abort", w.hosts[0].Abort(1), api.OK)
	wantState(t, w.hosts[0], 1, api.Closed)
	wantNotices(t, w.hosts[0], 1, api.Aborted)
	w.calm(t, 1)
	wantState(t, w.hosts[1], id, api.Closed)
	wantNotices(t, w.hosts[1], id, api.Aborted)
}

// P17.5: Close has an Abort sent at once, and the number is free.
func TestClose(t *testing.T) {
	h, _, id := joined(t)
	_, peer, _ := h.Tags(id)
	wantErr(t, "Send", h.Send(id, api.Msg{Data: []byte("never")}), api.OK)
	wantErr(t, "Close", h.Close(id), api.OK)
	wantSent(t, h, 0, sent{api.Head{From: 5, To: 9, Tag: peer}, []api.Chunk{{Type: api.Abort}}})
	wantSent(t, h, 1)
	wantGone(t, h, id)
	wantUsed(t, h, 1, 0, 0)
	step(t, h, 1)
	wantSent(t, h, 0)
	// One that knows no tag of the other side has nobody to tell.
	id = connect(t, h, 6, 7, 1)
	wantErr(t, "Close", h.Close(id), api.OK)
	step(t, h, 1)
	wantSent(t, h, 0)
}

// P17.5: what an association that is Closed had yet to send is sent when its socket is closed, once.
func TestCloseOfAClosedOne(t *testing.T) {
	h, _, id := joined(t)
	_, peer, _ := h.Tags(id)
	wantErr(t, "Abort", h.Abort(id), api.OK)
	wantErr(t, "Close", h.Close(id), api.OK)
	wantSent(t, h, 0, sent{api.Head{From: 5, To: 9, Tag: peer}, []api.Chunk{{Type: api.Abort}}})

	h, a, id := joined(t)
	wantErr(t, "Abort", a.Abort(), api.OK)
	talk(t, h, a, 2)
	wantState(t, h, id, api.Closed)
	wantErr(t, "Close", h.Close(id), api.OK)
	step(t, h, 3)
	wantSent(t, h, 0)
}

// P17.5: a listener is closed with all that wait at it, and no others.
func TestCloseOfAListener(t *testing.T) {
	h := newHost(t, config())
	meetNeighbours(t, h, 1)
	listen(t, h, 5)
	listen(t, h, 6)
	for i := range uint32(3) {
		feed(t, h, 2, 0, sctpFrame(t, 0, cookieFor(t, h, 2, uint16(20+i), 5, i+1)))
		outs(t, h, 0)
	}
	feed(t, h, 2, 0, sctpFrame(t, 0, cookieFor(t, h, 2, 20, 6, 9)))
	outs(t, h, 0)
	wantUsed(t, h, 6, 0, 0)
	id := accept(t, h, 1)
	wantErr(t, "Close", h.Close(1), api.OK)
	abort := []api.Chunk{{Type: api.Abort}}
	wantSent(t, h, 0, sent{api.Head{From: 5, To: 21, Tag: 2}, abort}, sent{api.Head{From: 5, To: 22, Tag: 3}, abort})
	wantUsed(t, h, 3, 0, 0)
	wantState(t, h, id, api.Established) // it was accepted
	if n := accept(t, h, 2); n != 6 {
		t.Fatal("accepted", n)
	}
	wantState(t, h, 6, api.Established)
}

// P17.5: no more than MaxPast tags are remembered: then Close has to wait.
func TestPast(t *testing.T) {
	h := newHost(t, config())
	meetNeighbours(t, h, 0)
	listen(t, h, 5)
	tag := uint32(1)
	come := func(now int) int {
		t.Helper()
		tag++
		feed(t, h, now, 0, sctpFrame(t, 0, cookieFor(t, h, now, uint16(tag), 5, tag)))
		outs(t, h, 0)
		return int(tag)
	}
	for i := range api.MaxPast {
		come(10 + i)
		wantErr(t, "Close", h.Close(accept(t, h, 1)), api.OK)
		outs(t, h, 0)
	}
	come(50)
	id := accept(t, h, 1)
	wantErr(t, "Close", h.Close(id), api.ErrFull)
	wantState(t, h, id, api.Established) // nothing has changed
	wantSent(t, h, 0)
	other := connect(t, h, 4, 4, 1)
	wantErr(t, "Close", h.Close(other), api.OK) // it is not remembered
	come(50)
	wantErr(t, "a listener with one that waits", h.Close(1), api.ErrFull)
	wantUsed(t, h, 3, 0, 0)
	step(t, h, 10+api.MaxLife)
	outs(t, h, 0)
	outs(t, h, 1)
	wantErr(t, "Close", h.Close(id), api.ErrFull) // the first one was closed MaxLife ticks ago
	step(t, h, 11+api.MaxLife)
	wantErr(t, "Close", h.Close(id), api.OK)
	wantErr(t, "a listener with one that waits", h.Close(1), api.ErrFull)
	step(t, h, 12+api.MaxLife)
	wantErr(t, "a listener with one that waits", h.Close(1), api.OK)
	wantUsed(t, h, 0, 0, framesOf(h))
}

func framesOf(h *host.Host) int {
	_, _, n := h.Used()
	return n
}

// P17.5: a listener alone, or a bound one, is closed whatever is remembered.
func TestCloseOfOthers(t *testing.T) {
	h := newHost(t, config())
	for range 3 * api.MaxPast {
		wantErr(t, "Close", h.Close(listen(t, h, 5)), api.OK)
		wantErr(t, "Close", h.Close(bind(t, h, 5)), api.OK)
		wantErr(t, "Close", h.Close(connect(t, h, 5, 6, 1)), api.OK)
	}
	wantUsed(t, h, 0, 0, 0)
}

// T4: a message that goes out ahead of a shutdown is told; a line that is cut ends both sides with Lost.
func TestEnds(t *testing.T) {
	w, id := linkedTwo(t)
	for range 2 {
		wantErr(t, "Send", w.hosts[0].Send(1, api.Msg{Data: make([]byte, 1000)}), api.OK)
	}
	wantErr(t, "Shutdown", w.hosts[0].Shutdown(1), api.OK)
	w.calm(t, 10)
	wantNotices(t, w.hosts[0], 1, api.Done)
	wantNotices(t, w.hosts[1], id, api.Done)
	wantTold(t, w.hosts[1], id, string(make([]byte, 1000)), string(make([]byte, 1000)))

	w, id = linkedTwo(t)
	wantErr(t, "Send", w.hosts[0].Send(1, api.Msg{Data: make([]byte, 1000)}), api.OK)
	w.cut = true
	w.calm(t, 5000)
	wantNotices(t, w.hosts[0], 1, api.Lost)
	wantNotices(t, w.hosts[1], id, api.Lost)
}
