package host_test

import (
	"bytes"
	"testing"

	"trunkline/api"
	"trunkline/assoc"
	"trunkline/chunk"
)

// P17.4: what cannot be read is bad.
func TestSctpThatIsNone(t *testing.T) {
	h := newHost(t, config())
	meetNeighbours(t, h, 1)
	listen(t, h, 5)
	b := caller(t, 9, 5, 1).Pull()[0].Bytes
	turned := bytes.Clone(b)
	turned[20]++
	feed(t, h, 2, 0, sctpFrame(t, 0, turned), sctpFrame(t, 0, b[:12]), sctpFrame(t, 0, nil))
	wantCounts(t, h, api.Counts{Bad: 3})
	wantSent(t, h, 0)
}

// P17.4, P17.7: who asks is answered by the card, and leaves nothing.
func TestAsked(t *testing.T) {
	h := newHost(t, config())
	meetNeighbours(t, h, 1)
	listen(t, h, 5)
	for i := range api.Cards {
		for tag := range uint32(1000) {
			feed(t, h, 2, i, chunksFrame(t, i, api.Head{From: 9, To: 5}, initOf(tag+1)))
			l := sents(t, h, i)
			if len(l) != 1 || l[0].head != (api.Head{From: 5, To: 9, Tag: tag + 1}) || l[0].chunks[0].Type != api.InitAck || l[0].chunks[0].Outs != 2 {
				t.Fatalf("answers: %+v", l)
			}
		}
	}
	wantUsed(t, h, 1, 0, 0)
	wantCounts(t, h, api.Counts{})
	_, e := h.Accept(1)
	wantErr(t, "Accept", e, api.ErrEmpty)
	// What the listener refuses is stray, and not answered.
	for i, f := range [][]byte{
		chunksFrame(t, 0, api.Head{From: 9, To: 5}, initOf(0)),
		chunksFrame(t, 0, api.Head{From: 9, To: 5, Tag: 1}, initOf(7)),
		chunksFrame(t, 0, api.Head{To: 5}, initOf(7)),
		chunksFrame(t, 0, api.Head{From: 9, To: 5}, initOf(7), initOf(7)),
		chunksFrame(t, 0, api.Head{From: 9, To: 5}, api.Chunk{Type: api.Init, Tag: 7}),
	} {
		feed(t, h, 3, 0, f)
		wantCounts(t, h, api.Counts{Stray: i + 1})
		wantSent(t, h, 0)
	}
}

// P17.4: a cookie makes a socket that waits, of the least free number, and is answered by the card that it came to.
func TestCookie(t *testing.T) {
	h := newHost(t, config())
	meetNeighbours(t, h, 1)
	bind(t, h, 4)
	listen(t, h, 5)
	bind(t, h, 6)
	wantErr(t, "Close", h.Close(1), api.OK)
	cookie := cookieFor(t, h, 2, 9, 5, 7)
	feed(t, h, 3, 1, sctpFrame(t, 1, cookie))
	wantSent(t, h, 0)
	wantSent(t, h, 1, sent{api.Head{From: 5, To: 9, Tag: 7}, []api.Chunk{{Type: api.CookieAck}}})
	wantUsed(t, h, 3, 0, 0)
	_, e := h.State(1)
	wantErr(t, "one that waits", e, api.ErrGone)
	if id := accept(t, h, 2); id != 1 {
		t.Fatal("accepted", id)
	}
	wantState(t, h, 1, api.Established)
	own, peer, e := h.Tags(1)
	if wantErr(t, "Tags", e, api.OK); own != tagOf(t, cookie) || peer != 7 {
		t.Fatal("tags", own, peer)
	}
	wantNotices(t, h, 1, api.Came)
	_, e = h.Accept(2)
	wantErr(t, "Accept", e, api.ErrEmpty)
	wantCounts(t, h, api.Counts{})
}

// P17.4: chunks behind a cookie are taken.
func TestCookieWithMore(t *testing.T) {
	h := newHost(t, config())
	meetNeighbours(t, h, 1)
	listen(t, h, 5)
	cookie := cookieFor(t, h, 2, 9, 5, 7)
	head, chunks, _ := chunk.Take(cookie)
	data := api.Chunk{Type: api.Data, Flags: 3, TSN: 1, Data: []byte("x")}
	feed(t, h, 2, 0, chunksFrame(t, 0, head, chunks[0], data))
	id := accept(t, h, 1)
	wantTold(t, h, id, "x")
}

// P17.4: a cookie that comes once more is answered once more, and makes nothing.
func TestCookieTwice(t *testing.T) {
	h := newHost(t, config())
	meetNeighbours(t, h, 1)
	listen(t, h, 5)
	cookie := cookieFor(t, h, 2, 9, 5, 7)
	ack := sent{api.Head{From: 5, To: 9, Tag: 7}, []api.Chunk{{Type: api.CookieAck}}}
	for i := range 10 {
		feed(t, h, 3, i%2, sctpFrame(t, i%2, cookie))
		wantSent(t, h, i%2, ack)
		wantSent(t, h, 1-i%2)
		wantUsed(t, h, 2, 0, 0)
	}
	id := accept(t, h, 1)
	feed(t, h, 4, 0, sctpFrame(t, 0, cookie))
	wantSent(t, h, 0, ack)
	wantNotices(t, h, id, api.Came)
	wantCounts(t, h, api.Counts{})
}

// P17.4: a cookie whose association has ended makes no other one: as long as the socket is there, and as long as it is remembered.
func TestCookieOfAnEndedOne(t *testing.T) {
	h := newHost(t, config())
	meetNeighbours(t, h, 1)
	listen(t, h, 5)
	cookie := cookieFor(t, h, 2, 9, 5, 7)
	frame := sctpFrame(t, 0, cookie)
	feed(t, h, 2, 0, frame)
	id := accept(t, h, 1)
	wantErr(t, "Abort", h.Abort(id), api.OK)
	step(t, h, 3)
	outs(t, h, 0)
	feed(t, h, 3, 0, frame)
	wantCounts(t, h, api.Counts{Stray: 1})
	wantSent(t, h, 0)
	wantErr(t, "Close", h.Close(id), api.OK)
	for i, now := range []int{3, 100, 602} {
		feed(t, h, now, 0, frame)
		wantCounts(t, h, api.Counts{Stray: i + 2})
		wantSent(t, h, 0)
	}
	feed(t, h, 603, 0, frame) // by now it is stale
	wantCounts(t, h, api.Counts{Stray: 5})
	wantUsed(t, h, 1, 0, 0)
}

// P17.4: those that wait at a closed listener are remembered, too, by the one that listens behind it.
func TestCookieOfAClosedListener(t *testing.T) {
	h := newHost(t, config())
	meetNeighbours(t, h, 1)
	listen(t, h, 5)
	cookie := cookieFor(t, h, 2, 9, 5, 7)
	fresh := cookieFor(t, h, 2, 10, 5, 8)
	feed(t, h, 2, 0, sctpFrame(t, 0, cookie))
	outs(t, h, 0)
	wantErr(t, "Close", h.Close(1), api.OK)
	wantSent(t, h, 0, sent{api.Head{From: 5, To: 9, Tag: 7}, []api.Chunk{{Type: api.Abort}}})
	wantUsed(t, h, 0, 0, 0)
	listen(t, h, 5)
	feed(t, h, 2, 0, sctpFrame(t, 0, cookie))
	wantCounts(t, h, api.Counts{Stray: 1})
	feed(t, h, 2, 0, sctpFrame(t, 0, fresh)) // it was never used
	wantUsed(t, h, 2, 0, 1)
}

// P17.4: the own tag of any association may not be made once more, whatever the ports are.
func TestCookieOfATakenTag(t *testing.T) {
	h := newHost(t, config())
	meetNeighbours(t, h, 1)
	listen(t, h, 5)
	cookie := cookieFor(t, h, 2, 9, 5, 7)
	connect(t, h, 8, 3, uint64(tagOf(t, cookie)))
	feed(t, h, 2, 0, sctpFrame(t, 0, cookie))
	wantCounts(t, h, api.Counts{Stray: 1})
	wantUsed(t, h, 2, 0, 1) // an Init
	wantErr(t, "Close", h.Close(2), api.OK)
	outs(t, h, 0)
	feed(t, h, 2, 0, sctpFrame(t, 0, cookie)) // no listener made it, so that it is not remembered
	wantUsed(t, h, 2, 0, 1)
}

// P17.4: MaxBacklog wait at a listener, and MaxSocks are there, at most.
func TestBacklog(t *testing.T) {
	h := newHost(t, config())
	meetNeighbours(t, h, 1)
	listen(t, h, 5)
	var cookies [][]byte
	for i := range uint32(9) {
		cookies = append(cookies, sctpFrame(t, 0, cookieFor(t, h, 2, uint16(i+20), 5, i+1)))
	}
	come := func(i, socks, stray int) {
		t.Helper()
		feed(t, h, 3, 0, cookies[i])
		outs(t, h, 0)
		wantUsed(t, h, socks, 0, 0)
		wantCounts(t, h, api.Counts{Stray: stray})
	}
	for i := range api.MaxBacklog {
		come(i, i+2, 0)
	}
	come(4, 5, 1)
	for i := range api.MaxBacklog { // the one that waits the longest comes first
		if id := accept(t, h, 1); id != i+2 {
			t.Fatal("accepted", id)
		}
	}
	come(4, 6, 1)
	come(5, 7, 1)
	come(6, 8, 1)
	come(7, 8, 2) // no number is free
	wantErr(t, "Close", h.Close(3), api.OK)
	outs(t, h, 0)
	come(7, 8, 2)
	for _, want := range []int{6, 7, 8, 3} { // the longest, not the least number
		if id := accept(t, h, 1); id != want {
			t.Fatal("accepted", id, "; want", want)
		}
	}
	for i := 2; i <= 8; i++ {
		wantState(t, h, i, api.Established)
	}
}

// P17.4: a cookie that is none: another bit, another host's, another port's, an old one's.
func TestCookieThatIsNone(t *testing.T) {
	h := newHost(t, config())
	meetNeighbours(t, h, 1)
	listen(t, h, 5)
	listen(t, h, 6)
	cookie := cookieFor(t, h, 2, 9, 5, 7)
	head, chunks, _ := chunk.Take(cookie)
	turned := chunks[0]
	turned.Data = bytes.Clone(turned.Data)
	turned.Data[40] ^= 1
	elsewhere := newHostOf(t, "another")
	meetNeighbours(t, elsewhere, 1)
	listen(t, elsewhere, 5)
	alien := cookieFor(t, elsewhere, 2, 9, 5, 7)
	for i, f := range [][]byte{
		chunksFrame(t, 0, head, turned),
		chunksFrame(t, 0, api.Head{From: 9, To: 5, Tag: head.Tag + 2}, chunks[0]),
		chunksFrame(t, 0, api.Head{From: 10, To: 5, Tag: head.Tag}, chunks[0]),
		chunksFrame(t, 0, api.Head{From: 9, To: 6, Tag: head.Tag}, chunks[0]),
		chunksFrame(t, 0, head, api.Chunk{Type: api.CookieEcho}),
		sctpFrame(t, 0, alien),
	} {
		feed(t, h, 3, 0, f)
		wantCounts(t, h, api.Counts{Stray: i + 1})
		wantSent(t, h, 0)
		wantUsed(t, h, 2, 0, 0)
	}
	feed(t, h, 2+api.MaxLife+1, 0, sctpFrame(t, 0, cookie))
	wantCounts(t, h, api.Counts{Stray: 7})
	wantUsed(t, h, 2, 0, 0)
}

// P17.4: one who begins anew replaces the association that there was.
func TestReplace(t *testing.T) {
	h, a, id := joined(t)
	wantErr(t, "Send", a.Send(api.Msg{Data: []byte("old")}), api.OK)
	talk(t, h, a, 2)
	b := caller(t, 9, 5, 2)
	talk(t, h, b, 2)
	next := accept(t, h, 1)
	wantState(t, h, id, api.Closed)
	wantState(t, h, next, api.Established)
	wantNotices(t, h, id, api.Again)
	wantNotices(t, h, next, api.Came)
	wantTold(t, h, id, "old")
	wantErr(t, "Send", b.Send(api.Msg{Data: []byte("new")}), api.OK)
	talk(t, h, b, 3)
	wantTold(t, h, next, "new")
	wantTold(t, h, id)
	wantCounts(t, h, api.Counts{})
	// What the old one sends bears no right tag any more, and is not answered.
	wantErr(t, "Send", a.Send(api.Msg{Data: []byte("late")}), api.OK)
	talk(t, h, a, 4)
	if h.Count().Stray == 0 || a.Stands() != api.Established {
		t.Fatal("the old one:", h.Count(), a.Stands())
	}
	wantTold(t, h, next)
	wantState(t, h, next, api.Established)
}

// P17.4: what is for an association is handed to it; what it refuses is stray, and not answered.
func TestHandedOn(t *testing.T) {
	h, a, id := joined(t)
	own, peer, _ := h.Tags(id)
	for i, f := range [][]byte{
		chunksFrame(t, 0, api.Head{From: 9, To: 5, Tag: own + 2}, api.Chunk{Type: api.Abort}),
		chunksFrame(t, 0, api.Head{From: 9, To: 5, Tag: peer}, api.Chunk{Type: api.Abort}),
		chunksFrame(t, 0, api.Head{From: 9, To: 5}, api.Chunk{Type: api.Data, Flags: 3, TSN: 1, Data: []byte("x")}),
		chunksFrame(t, 0, api.Head{From: 9, To: 5}, api.Chunk{Type: api.ShutdownAck}),
	} {
		feed(t, h, 2, 0, f)
		wantCounts(t, h, api.Counts{Stray: i + 1})
		wantSent(t, h, 0)
	}
	wantState(t, h, id, api.Established)
	wantErr(t, "Send", a.Send(api.Msg{Data: []byte("x")}), api.OK)
	talk(t, h, a, 3)
	wantTold(t, h, id, "x")
	// A heartbeat is answered at once, on the way that it came on.
	beat := api.Chunk{Type: api.Heartbeat, Params: []api.Param{{Kind: 1, Value: []byte("12345678")}}}
	feed(t, h, 5, 1, chunksFrame(t, 1, api.Head{From: 9, To: 5, Tag: own}, beat))
	beat.Type = api.HeartbeatAck
	wantSent(t, h, 1, sent{api.Head{From: 5, To: 9, Tag: peer}, []api.Chunk{beat}})
	feed(t, h, 6, 0, chunksFrame(t, 0, api.Head{From: 9, To: 5, Tag: own}, api.Chunk{Type: api.Abort}))
	wantState(t, h, id, api.Closed)
	wantNotices(t, h, id, api.Aborted)
}

// P17.4: an Init without a listener is for the association between the ports, which refuses it.
func TestInitToAnAssociation(t *testing.T) {
	h := newHost(t, config())
	meetNeighbours(t, h, 1)
	id := connect(t, h, 9, 5, 1)
	step(t, h, 1)
	outs(t, h, 0)
	feed(t, h, 2, 0, chunksFrame(t, 0, api.Head{From: 5, To: 9}, initOf(7)))
	wantCounts(t, h, api.Counts{Stray: 1})
	wantSent(t, h, 0)
	wantState(t, h, id, api.CookieWait)
	// From another port nobody is there.
	feed(t, h, 2, 0, chunksFrame(t, 0, api.Head{From: 6, To: 9}, initOf(7)))
	wantSent(t, h, 0, sent{api.Head{From: 9, To: 6, Tag: 7}, []api.Chunk{{Type: api.Abort}}})
}

// P17.4: what nobody takes is refused, but for what tells of an end.
func TestStray(t *testing.T) {
	h := newHost(t, config())
	meetNeighbours(t, h, 1)
	bind(t, h, 7)
	listen(t, h, 6)
	data := api.Chunk{Type: api.Data, Flags: 3, TSN: 1, Data: []byte("x")}
	of := func(kind uint8) api.Chunk { return api.Chunk{Type: kind} }
	back := func(tag uint32, kind, flags uint8) []sent {
		return []sent{{api.Head{From: 5, To: 9, Tag: tag}, []api.Chunk{{Type: kind, Flags: flags}}}}
	}
	for i, x := range []struct {
		chunks []api.Chunk
		want   []sent
	}{
		{[]api.Chunk{data}, back(3, api.Abort, 1)},
		{[]api.Chunk{initOf(7)}, back(7, api.Abort, 0)},
		{[]api.Chunk{initOf(0)}, back(0, api.Abort, 0)},
		{[]api.Chunk{initOf(7), initOf(8)}, back(8, api.Abort, 0)},
		{[]api.Chunk{data, initOf(7), data}, back(7, api.Abort, 0)},
		{[]api.Chunk{of(api.ShutdownAck)}, back(3, api.ShutdownComplete, 1)},
		{[]api.Chunk{data, of(api.ShutdownAck)}, back(3, api.ShutdownComplete, 1)},
		{[]api.Chunk{of(api.ShutdownAck), initOf(9)}, back(9, api.ShutdownComplete, 0)},
		{[]api.Chunk{initOf(9), of(api.ShutdownAck)}, back(9, api.ShutdownComplete, 0)},
		{[]api.Chunk{of(api.CookieEcho)}, back(3, api.Abort, 1)},
		{[]api.Chunk{{Type: api.Heartbeat}}, back(3, api.Abort, 1)},
		{[]api.Chunk{{Type: api.Shutdown}}, back(3, api.Abort, 1)},
		{[]api.Chunk{{Type: api.InitAck, Tag: 4}}, back(3, api.Abort, 1)},
		{[]api.Chunk{{Type: 200}}, back(3, api.Abort, 1)},
		{[]api.Chunk{of(api.Abort)}, nil},
		{[]api.Chunk{{Type: api.Abort, Flags: 1}}, nil},
		{[]api.Chunk{of(api.ShutdownComplete)}, nil},
		{[]api.Chunk{of(api.CookieAck)}, nil},
		{[]api.Chunk{of(api.Error)}, nil},
		{[]api.Chunk{data, of(api.Error)}, nil},
		{[]api.Chunk{initOf(7), of(api.Abort)}, nil},
		{[]api.Chunk{of(api.CookieAck), of(api.ShutdownAck)}, nil},
	} {
		feed(t, h, 2, i%2, chunksFrame(t, i%2, api.Head{From: 9, To: 5, Tag: 3}, x.chunks...))
		wantSent(t, h, i%2, x.want...)
		wantSent(t, h, 1-i%2)
		wantCounts(t, h, api.Counts{Stray: i + 1})
	}
	// A socket that is bound is nobody, and one that listens takes nothing but Inits and cookies.
	feed(t, h, 2, 0, chunksFrame(t, 0, api.Head{From: 9, To: 7}, initOf(7)))
	wantSent(t, h, 0, sent{api.Head{From: 7, To: 9, Tag: 7}, []api.Chunk{{Type: api.Abort}}})
	feed(t, h, 2, 0, chunksFrame(t, 0, api.Head{From: 9, To: 6, Tag: 3}, data))
	wantSent(t, h, 0, sent{api.Head{From: 6, To: 9, Tag: 3}, []api.Chunk{{Type: api.Abort, Flags: 1}}})
	wantUsed(t, h, 2, 0, 0)
}

// P17.4: an association that is Closed takes nothing: who sends to it is refused.
func TestStrayToAClosedOne(t *testing.T) {
	h, a, id := joined(t)
	wantErr(t, "Shutdown", a.Shutdown(), api.OK)
	talk(t, h, a, 2)
	wantState(t, h, id, api.Closed)
	wantNotices(t, h, id, api.Done)
	feed(t, h, 3, 0, chunksFrame(t, 0, api.Head{From: 9, To: 5, Tag: 4}, api.Chunk{Type: api.ShutdownAck}))
	wantSent(t, h, 0, sent{api.Head{From: 5, To: 9, Tag: 4}, []api.Chunk{{Type: api.ShutdownComplete, Flags: 1}}})
	wantCounts(t, h, api.Counts{Stray: 1})
}

// P17.4, T4: whose last packet was lost is answered, though nothing is there any more.
func TestShutdownCompleteIsLost(t *testing.T) {
	h, a, id := joined(t)
	wantErr(t, "Shutdown", h.Shutdown(id), api.OK)
	step(t, h, 2)
	for _, p := range packets(t, h, 0) { // Shutdown
		wantErr(t, "Take", a.Take(p.Body, 0, 2), api.OK)
	}
	ack := a.Pull()
	if len(ack) != 1 || a.Stands() != api.ShutdownAckSent {
		t.Fatal("no ShutdownAck")
	}
	feed(t, h, 2, 0, sctpFrame(t, 0, ack[0].Bytes))
	outs(t, h, 0) // ShutdownComplete is lost
	wantState(t, h, id, api.Closed)
	wantErr(t, "Close", h.Close(id), api.OK)
	wantErr(t, "Tick", a.Tick(40, 1), api.OK)
	talk(t, h, a, 40)
	if a.Stands() != api.Closed {
		t.Fatal("state", a.Stands())
	}
	if n, _ := a.Notice(); n != api.Came {
		t.Fatal("notice", n)
	}
	if n, _ := a.Notice(); n != api.Done {
		t.Fatal("notice", n)
	}
}

// P17.4: one who asks a port at which nobody listens is told so.
func TestAbortedAtOnce(t *testing.T) {
	w := newTwo(t)
	id := connect(t, w.hosts[0], 9, 5, 77)
	w.calm(t, 2)
	wantState(t, w.hosts[0], id, api.Closed)
	wantNotices(t, w.hosts[0], id, api.Aborted)
}

// P17.4: the association of the ports is found among others, and among Closed ones of the same ports.
func TestBetween(t *testing.T) {
	h := newHost(t, config())
	meetNeighbours(t, h, 1)
	listen(t, h, 5)
	var old []*assoc.Assoc
	for i := range 3 { // of the same ports, each replaces the one ahead of it
		a := caller(t, 9, 5, i+1)
		talk(t, h, a, i+1)
		old = append(old, a)
		accept(t, h, 1)
	}
	other := caller(t, 10, 5, 4)
	talk(t, h, other, 4)
	id := accept(t, h, 1)
	wantErr(t, "Send", old[2].Send(api.Msg{Data: []byte("nine")}), api.OK)
	wantErr(t, "Send", other.Send(api.Msg{Data: []byte("ten")}), api.OK)
	talk(t, h, old[2], 5)
	talk(t, h, other, 5)
	wantTold(t, h, 4, "nine")
	wantTold(t, h, id, "ten")
	wantNotices(t, h, 2, api.Came, api.Again)
	wantNotices(t, h, 3, api.Came, api.Again)
	wantNotices(t, h, 4, api.Came)
}

// P17.4: what an association has to send for a packet is sent at once, ahead of what is sent for the next frame.
func TestAtOnce(t *testing.T) {
	h := newHost(t, config())
	meetNeighbours(t, h, 1)
	listen(t, h, 5)
	b := cookieFor(t, h, 2, 9, 5, 7)
	cookie := sctpFrame(t, 0, b)
	beat := chunksFrame(t, 0, api.Head{From: 9, To: 5, Tag: tagOf(t, b)}, api.Chunk{Type: api.Heartbeat})
	echo := packetFrame(t, 0, ping(1, nil))
	feed(t, h, 3, 0, cookie, echo, cookie, echo, beat, echo)
	var protos []uint8
	for _, p := range packets(t, h, 0) {
		protos = append(protos, p.Proto)
	}
	want := []uint8{api.ProtoSctp, api.ProtoIcmp, api.ProtoSctp, api.ProtoIcmp, api.ProtoSctp, api.ProtoIcmp}
	if !bytes.Equal(protos, want) {
		t.Fatal("in another order:", protos)
	}
}
