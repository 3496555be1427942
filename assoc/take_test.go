package assoc_test

import (
	"math"
	"strings"
	"testing"

	"trunkline/api"
	"trunkline/assoc"
	"trunkline/chunk"
)

// P16.5: the errors of a packet, in their order: each call has all faults behind its first one.
func TestTakeErrors(t *testing.T) {
	var none *assoc.Assoc
	a, _ := meet(t, asker, asked)
	tick(t, a, start+5)
	ended, _ := meet(t, asker, asked)
	ended.Abort()
	ended.Pull()
	bad := []byte("no packet at all, none")
	first := api.Chunk{Type: api.Init, Tag: 1, Outs: 1, Ins: 1}
	cut := of(api.Abort)
	cut.Flags = 1
	complete := of(api.ShutdownComplete)
	complete.Flags = 0xff
	now := start + 5
	for _, x := range []struct {
		a      *assoc.Assoc
		b      []byte
		w, now int
		want   api.Errno
	}{
		{none, bad, -1, -1, api.ErrNil},
		{a, bad, -1, -1, api.ErrArg},
		{a, bad, -1, math.MinInt, api.ErrArg},
		{a, bad, -1, api.MaxTick + 1, api.ErrArg},
		{a, bad, -1, math.MaxInt, api.ErrArg},
		{a, bad, -1, start + 4, api.ErrTick},
		{a, bad, -1, now, api.ErrArg},
		{a, bad, 2, now, api.ErrArg},
		{a, bad, 0, now, api.ErrSum},
		{ended, bad, 0, now, api.ErrSum},
		{ended, packet(t, 1, 1, 1, first), 0, now, api.ErrState},
		{a, packet(t, 5, 8, 1, first), 0, now, api.ErrPort},
		{a, packet(t, 4, 9, 1, first), 0, now, api.ErrPort},
		{a, packet(t, 5, 9, 1, first), 0, now, api.ErrType},
		{a, packet(t, 5, 9, 0, first), 0, now, api.ErrType},
		{a, packet(t, 5, 9, startTag+1, of(api.Heartbeat)), 0, now, api.ErrTag},
		{a, packet(t, 5, 9, 0, of(api.Heartbeat)), 0, now, api.ErrTag},
		{a, packet(t, 5, 9, madeTag, of(api.Heartbeat)), 0, now, api.ErrTag},
		{a, packet(t, 5, 9, madeTag, of(api.Heartbeat), cut), 0, now, api.ErrTag},
		{a, packet(t, 5, 9, madeTag, of(api.Abort)), 0, now, api.ErrTag},
		{a, packet(t, 5, 9, madeTag, of(api.ShutdownComplete)), 0, now, api.ErrTag},
		{a, packet(t, 5, 9, startTag, cut), 0, now, api.ErrTag},
		{a, packet(t, 5, 9, startTag, complete), 0, now, api.ErrTag},
	} {
		if e := x.a.Take(x.b, x.w, x.now); e != x.want {
			t.Errorf("Take(%x, %d, %d): error %d; want %d", x.b, x.w, x.now, e, x.want)
		}
	}
	// P16.11, P2: nothing of it changed anything, the tick neither.
	wantErr(t, "Take", a.Take(packet(t, 5, 9, 0, of(api.Heartbeat)), 0, 1000), api.ErrTag)
	wantState(t, a, api.Established)
	wantPull(t, a)
	wantNotices(t, a)
	wantNext(t, a, start+100)
	toAsker(t, a, 0, now, of(api.Heartbeat))
	wantPull(t, a, fromAsker(0, of(api.HeartbeatAck)))
	wantErr(t, "Take", a.Take(packet(t, 5, 9, startTag, of(api.Heartbeat)), 0, api.MaxTick), api.OK)
}

// P16.5: an Abort ends it, in each state, and what stands behind it is not taken.
func TestAbortCame(t *testing.T) {
	end := func(a *assoc.Assoc, tag uint32, flags uint8) {
		t.Helper()
		c := of(api.Abort)
		c.Flags = flags
		wantErr(t, "Take", a.Take(packet(t, 5, 9, tag, c, of(api.Heartbeat), of(api.Abort)), 0, start), api.OK)
		wantState(t, a, api.Closed)
		wantNotices(t, a, api.Aborted)
		wantPull(t, a)
		wantNoNext(t, a)
		wantLeft(t, a, 0, 0, 0)
	}
	waits := open(t, asker)
	end(waits, startTag, 0)
	// Where the peer's tag is not known its own one counts, whatever the Flags are.
	end(open(t, asker), startTag, 1)
	a, _, _ := echoed(t, asker, asked)
	end(a, startTag, 2)
	a, _, _ = echoed(t, asker, asked)
	end(a, madeTag, 1)
	a, _ = meet(t, asker, asked)
	send(t, a, "one")
	toAsker(t, a, 0, start, piece(madeTSN+1, 1, "two"))
	end(a, madeTag, 3)
	a, _ = meet(t, asker, asked)
	a.Shutdown()
	end(a, startTag, 0)
}

// P16.5: chunks of unknown types: by their bits they are told, and end the packet.
func TestUnknown(t *testing.T) {
	told := api.Chunk{Type: api.Error, Params: []api.Param{{Kind: 6}}}
	for _, x := range []struct {
		kind  uint8
		tells bool
		stops bool
	}{{12, false, true}, {13, false, true}, {15, false, true}, {0x3f, false, true}, {0x40, true, true}, {0x7f, true, true}, {0x80, false, false}, {0xc0, true, false}, {0xff, true, false}} {
		a, _ := meet(t, asker, asked)
		toAsker(t, a, 1, start, piece(madeTSN+1, 1, "two"), api.Chunk{Type: x.kind, Data: []byte("what")}, of(api.Heartbeat))
		var want []sent
		if x.tells {
			want = append(want, fromAsker(1, told))
		}
		if !x.stops {
			want = append(want, fromAsker(1, of(api.HeartbeatAck)))
		}
		want = append(want, fromAsker(1, sack(madeTSN-1, 16384-3, [2]uint16{2, 2})))
		wantPull(t, a, want...)
	}
	// To one whose tag is not known nothing can be told.
	a := open(t, asker)
	a.Pull()
	toAsker(t, a, 0, start, api.Chunk{Type: 0xff}, of(api.Heartbeat))
	wantPull(t, a)
	wantState(t, a, api.CookieWait)
}

// P16.5: pieces are told, and acknowledged within SackAfter ticks, every second packet at once.
func TestSackLater(t *testing.T) {
	_, p := meet(t, asker, asked)
	toMade(t, p, 0, start, piece(1, 0, "one"), piece(2, 1, "two"))
	wantTold(t, p, "one", "two")
	wantPull(t, p)
	wantNext(t, p, start+2)
	tick(t, p, start+1)
	wantPull(t, p)
	tick(t, p, start+2)
	wantNext(t, p, start+2)
	wantPull(t, p, fromMade(0, sack(2, 16384)))
	wantPull(t, p)
	wantNext(t, p, start+100)
	toMade(t, p, 0, start+3, piece(3, 2, "three"))
	wantPull(t, p)
	toMade(t, p, 1, start+3, piece(4, 3, "four"))
	wantNext(t, p, start+3)
	// It goes back on the way on which they came; two messages wait.
	wantPull(t, p, fromMade(1, sack(4, 16384-9)))
	toMade(t, p, 0, start+4, piece(5, 4, "five"))
	wantPull(t, p)
	// Packets without pieces do not count; a tick that comes with one does.
	toMade(t, p, 0, start+5, of(api.Heartbeat))
	wantPull(t, p, fromMade(0, of(api.HeartbeatAck)))
	toMade(t, p, 0, start+6, of(api.Heartbeat))
	wantPull(t, p, fromMade(0, of(api.HeartbeatAck)), fromMade(0, sack(5, 16384-13)))
}

// P16.5: pieces behind a gap, and doubles, are acknowledged at once.
func TestSackAtOnce(t *testing.T) {
	_, p := meet(t, asker, asked)
	toMade(t, p, 0, start, piece(3, 2, "three"))
	wantPull(t, p, fromMade(0, sack(0, 16384-5, [2]uint16{3, 3})))
	wantLeft(t, p, 0, 1, 0)
	toMade(t, p, 0, start, piece(5, 4, "five"))
	wantPull(t, p, fromMade(0, sack(0, 16384-9, [2]uint16{3, 3}, [2]uint16{5, 5})))
	// What fills a gap is not behind one.
	toMade(t, p, 0, start, piece(1, 0, "one"))
	wantPull(t, p)
	tick(t, p, start+2)
	wantPull(t, p, fromMade(0, sack(1, 16384-12, [2]uint16{2, 2}, [2]uint16{4, 4})))
	again := sack(1, 16384-12, [2]uint16{2, 2}, [2]uint16{4, 4})
	again.Dups = []uint32{1, 5}
	toMade(t, p, 0, start+2, piece(1, 0, "one"), piece(5, 4, "five"))
	wantPull(t, p, fromMade(0, again))
	toMade(t, p, 0, start+2, piece(2, 1, "two"), piece(4, 3, "four"))
	wantTold(t, p, "one", "two", "three", "four", "five")
	tick(t, p, start+4)
	wantPull(t, p, fromMade(0, sack(5, 16384)))
	wantLeft(t, p, 0, 0, 0)
}

// P16.5: a piece too far ahead is left, and so is one on no stream, but for being acknowledged.
func TestPiecesOfNoUse(t *testing.T) {
	_, p := meet(t, asker, asked)
	toMade(t, p, 0, start, piece(257, 1, "far"))
	wantPull(t, p, fromMade(0, sack(0, 16384)))
	toMade(t, p, 0, start, piece(256, 1, "near"))
	wantPull(t, p, fromMade(0, sack(0, 16384-4, [2]uint16{256, 256})))
	nowhere := piece(1, 0, "nowhere")
	nowhere.Stream = 2
	toMade(t, p, 0, start, nowhere)
	tick(t, p, start+2)
	wantPull(t, p, fromMade(0, sack(1, 16384-4, [2]uint16{255, 255})))
	wantTold(t, p)
}

// P16.5: of what is behind a gap half of MaxHeld pieces are held; the next one is taken beyond that.
func TestHeldPieces(t *testing.T) {
	_, p := meet(t, asker, asked)
	for i := range 64 {
		toMade(t, p, 0, start, piece(uint32(i+3), uint16(i+2), "x"))
	}
	p.Pull()
	wantLeft(t, p, 0, 64, 0)
	toMade(t, p, 0, start, piece(67, 66, "x"))
	wantLeft(t, p, 0, 64, 0)
	wantPull(t, p, fromMade(0, sack(0, 16384-64, [2]uint16{3, 66})))
	toMade(t, p, 0, start, piece(2, 1, "x"))
	wantLeft(t, p, 0, 64, 0)
	wantPull(t, p, fromMade(0, sack(0, 16384-64, [2]uint16{3, 66})))
	// One that was taken is a double, and not left.
	double := sack(0, 16384-64, [2]uint16{3, 66})
	double.Dups = []uint32{3}
	toMade(t, p, 0, start, piece(3, 2, "x"))
	wantPull(t, p, fromMade(0, double))
	begins := piece(1, 0, "first")
	begins.Flags = api.FlagBegin
	toMade(t, p, 0, start, begins)
	wantLeft(t, p, 0, 65, 0)
	// The next ones are taken up to MaxHeld.
	for i := range 63 {
		middle := piece(uint32(2+i), 0, "x")
		middle.Flags = 0
		toMade(t, p, 0, start, middle)
	}
	wantLeft(t, p, 0, 65+1, 0) // those from 3 on were taken long ago
}

// P16.5: not more than MaxHeld pieces are held, whatever they are.
func TestMaxHeld(t *testing.T) {
	_, p := meet(t, asker, asked)
	for i := range 129 {
		c := piece(uint32(1+i), 0, "x")
		c.Flags = 0
		if i == 0 {
			c.Flags = api.FlagBegin
		}
		toMade(t, p, 0, start, c)
		wantLeft(t, p, 0, min(128, i+1), 0)
	}
	wantPull(t, p, fromMade(0, sack(128, 16384-128)))
}

// P16.5: while MaxInbox messages wait, what comes is left.
func TestFullInbox(t *testing.T) {
	_, p := meet(t, asker, asked)
	for i := range 64 {
		toMade(t, p, 0, start, piece(uint32(1+i), uint16(i), "x"))
	}
	p.Pull()
	wantLeft(t, p, 0, 0, 64)
	toMade(t, p, 0, start, piece(65, 64, "y"))
	wantLeft(t, p, 0, 0, 64)
	wantPull(t, p, fromMade(0, sack(64, 16384-64)))
	m, e := p.Recv()
	wantErr(t, "Recv", e, api.OK)
	if string(m.Data) != "x" || m.SSN != 0 {
		t.Fatal(brief(m))
	}
	toMade(t, p, 0, start, piece(65, 64, "y"))
	wantLeft(t, p, 0, 0, 64)
	tick(t, p, start+2)
	wantPull(t, p, fromMade(0, sack(65, 16384-64)))
}

// P16.5: what has more bytes than there is room is left: what is held and what waits take room.
func TestRoom(t *testing.T) {
	_, p := meet(t, asker, asked)
	big := strings.Repeat("x", 1400)
	for i := range 10 {
		toMade(t, p, 0, start, piece(uint32(1+i), uint16(i), big))
	}
	toMade(t, p, 0, start, piece(12, 11, big))
	p.Pull()
	wantLeft(t, p, 0, 1, 10)
	room := 16384 - 11*1400 // 984
	toMade(t, p, 0, start, piece(13, 12, big[:985]))
	wantPull(t, p, fromMade(0, sack(10, room, [2]uint16{2, 2})))
	wantLeft(t, p, 0, 1, 10)
	toMade(t, p, 0, start, piece(11, 10, big[:984]))
	wantLeft(t, p, 0, 0, 12)
	toMade(t, p, 0, start, piece(13, 12, "x"))
	wantPull(t, p, fromMade(0, sack(12, 0)))
	wantLeft(t, p, 0, 0, 12)
	p.Recv()
	toMade(t, p, 0, start, piece(13, 12, big))
	wantLeft(t, p, 0, 0, 12)
	tick(t, p, start+2)
	wantPull(t, p, fromMade(0, sack(13, 0)))
}

// P16.5: Data ahead of Established, and behind ShutdownSent, is not taken.
func TestPiecesInOtherStates(t *testing.T) {
	a, _, _ := echoed(t, asker, asked)
	toAsker(t, a, 0, start, piece(madeTSN, 0, "one"))
	wantPull(t, a)
	wantTold(t, a)
	toAsker(t, a, 0, start, of(api.CookieAck), piece(madeTSN, 0, "one"))
	wantTold(t, a, "one")
	for _, left := range []int{0, 1} {
		_, p := meet(t, asker, asked)
		if left > 0 {
			send(t, p, "out")
		}
		toMade(t, p, 0, start, shutdown(madeTSN-1))
		p.Pull()
		toMade(t, p, 0, start, piece(1, 0, "one"))
		wantTold(t, p)
		tick(t, p, start+2)
		wantPull(t, p)
	}
}

// P16.5: a heartbeat is answered on its way, with its parameters, unless that would be too long.
func TestHeartbeatCame(t *testing.T) {
	a, _ := meet(t, asker, asked)
	c := api.Chunk{Type: api.Heartbeat, Params: []api.Param{{Kind: 1, Value: []byte("abc")}, {Kind: 77}, {Kind: 1, Value: []byte("defg")}}}
	answer := c
	answer.Type = api.HeartbeatAck
	toAsker(t, a, 1, start, c)
	toAsker(t, a, 0, start, c, of(api.Heartbeat))
	wantPull(t, a, fromAsker(1, answer), fromAsker(0, answer), fromAsker(0, of(api.HeartbeatAck)))
	for _, n := range []int{500 - 20 - 12 - 8, 500 - 20 - 12 - 8 + 1} {
		c := api.Chunk{Type: api.Heartbeat, Params: []api.Param{{Kind: 1, Value: make([]byte, n)}}}
		toAsker(t, a, 0, start, c)
		if l := a.Pull(); len(l) != 501-20-12-8-n {
			t.Fatalf("%d bytes: %d packets", n, len(l))
		}
	}
	shut, _ := meet(t, asker, asked)
	shut.Shutdown()
	shut.Pull()
	toAsker(t, shut, 0, start, of(api.Heartbeat))
	wantPull(t, shut, fromAsker(0, of(api.HeartbeatAck)))
}

// P16.5: an acknowledgement: what it does to the ways.
func TestSackGrowsWindows(t *testing.T) {
	a, _ := meet(t, asker, asked)
	wantErr(t, "Send", a.Send(api.Msg{Data: make([]byte, 4096)}), api.OK)
	l := pull(t, a)
	if len(l) != 5 || way(t, a, 0).Window != 2000 {
		t.Fatalf("%d packets, %+v", len(l), way(t, a, 0))
	}
	// 5 times 452 fly, the window is full: it grows by mtu.
	toAsker(t, a, 0, start+7, sack(2, 16384))
	if w := way(t, a, 0); w.Window != 2500 || w.Faults != 0 {
		t.Fatalf("%+v", w)
	}
	wantNext(t, a, start+37) // others of the way were acknowledged
	wantLeft(t, a, 8, 0, 0)
	if l := pull(t, a); len(l) != 3 {
		t.Fatalf("%d packets", len(l))
	}
	// Nothing moves: it does not.
	toAsker(t, a, 0, start+7, sack(2, 16384, [2]uint16{2, 2}))
	if w := way(t, a, 0); w.Window != 2500 {
		t.Fatalf("%+v", w)
	}
	// It is not full any more.
	toAsker(t, a, 0, start+7, sack(3, 16384))
	if w := way(t, a, 0); w.Window != 2500 {
		t.Fatalf("%+v", w)
	}
	// Of no use are those that are stale, and those of what was not sent.
	toAsker(t, a, 0, start+7, sack(1, 5), sack(99, 5))
	wantLeft(t, a, 7, 0, 0)
}

// P16.5: a good acknowledgement has the ways of its bytes be good, and ends the row of faults; Fast is Fast of the way in use.
func TestSackIsGood(t *testing.T) {
	a, _ := meet(t, asker, asked)
	wantErr(t, "Send", a.Send(api.Msg{Data: make([]byte, 4096)}), api.OK)
	a.Pull()
	now := start
	for _, wait := range []int{30, 60, 120} {
		now += wait
		tick(t, a, now)
		a.Pull()
	}
	if w := way(t, a, 0); w.Faults != 3 || w.Window != 500 {
		t.Fatalf("%+v", w)
	}
	// Without bytes it says nothing of the way.
	toAsker(t, a, 0, now, sack(0, 16384))
	if w := way(t, a, 0); w.Faults != 3 {
		t.Fatalf("%+v", w)
	}
	toAsker(t, a, 1, now, sack(1, 16384))
	if w := way(t, a, 0); w.Faults != 0 {
		t.Fatalf("%+v", w)
	}
	fast, _ := meet(t, asker, asked)
	wantErr(t, "Send", fast.Send(api.Msg{Data: make([]byte, 4096)}), api.OK)
	first := pull(t, fast)[0]
	for i := range 3 {
		if w := way(t, fast, 0); w.Slow != 8192 {
			t.Fatalf("%+v", w)
		}
		toAsker(t, fast, 0, start, sack(0, 16384, [2]uint16{2, uint16(2 + i)}))
	}
	if w := way(t, fast, 0); w.Slow != 2000 || way(t, fast, 1).Slow != 8192 {
		t.Fatalf("%+v", w)
	}
	l := pull(t, fast)
	if len(l) == 0 || brief(l[0]) != brief(first) {
		t.Fatal("not sent again:", brief(l))
	}
}

// P16.5: nine faults end an association, but not if a good acknowledgement, or a heartbeat's answer, came between.
func TestRowOfFaults(t *testing.T) {
	run := func(each func(a *assoc.Assoc, now, i int)) *assoc.Assoc {
		a, _ := meet(t, asker, asked)
		send(t, a, "one")
		a.Pull()
		for i := range 40 {
			at, ok := a.Next()
			if !ok {
				break
			}
			tick(t, a, at)
			each(a, at, i)
			a.Pull()
		}
		return a
	}
	lost := run(func(*assoc.Assoc, int, int) {})
	wantState(t, lost, api.Closed)
	wantNotices(t, lost, api.Lost)
	wantLeft(t, lost, 0, 0, 0)
	kept := run(func(a *assoc.Assoc, now, i int) {
		if i%4 == 3 {
			toAsker(t, a, 0, now, sack(0, 16384))
		}
	})
	wantState(t, kept, api.Established)
	stale := run(func(a *assoc.Assoc, now, i int) {
		if i%4 == 3 {
			toAsker(t, a, 0, now, sack(7, 16384), sack(math.MaxUint32, 0))
		}
	})
	wantState(t, stale, api.Closed)
	beats := run(func(a *assoc.Assoc, now, i int) {
		for _, s := range a.Pull() {
			if h, l, _ := chunk.Take(s.Bytes); l[0].Type == api.Heartbeat && h.To == 5 && s.Way == 1 {
				l[0].Type = api.HeartbeatAck
				toAsker(t, a, s.Way, now, l...)
			}
		}
	})
	wantState(t, beats, api.Established)
}
