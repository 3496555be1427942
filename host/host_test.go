package host_test

import (
	"bytes"
	"testing"

	"trunkline/api"
	"trunkline/ether"
	"trunkline/host"
	"trunkline/ip"
)

// P17.1: which settings may be.
func TestNew(t *testing.T) {
	change := func(f func(*api.Config)) api.Config {
		c := config()
		f(&c)
		return c
	}
	good := []api.Config{
		config(),
		change(func(c *api.Config) { c.Mtu = api.MinMtu }),
		change(func(c *api.Config) { c.Mtu = api.MaxBody }),
		change(func(c *api.Config) { c.Streams = 1 }),
		change(func(c *api.Config) { c.Streams = api.MaxStreams }),
		change(func(c *api.Config) { c.Ring = 1 }),
		change(func(c *api.Config) { c.Ring = api.MaxRing }),
		change(func(c *api.Config) { c.Macs = [2]uint64{0, api.Everybody - 1} }),
		change(func(c *api.Config) { c.Macs = [2]uint64{7, 7} }),
		change(func(c *api.Config) { c.Addrs[0] = 0 }),
	}
	for i, c := range good {
		if h, e := host.New(c, nil); h == nil || e != api.OK {
			t.Errorf("good settings %d: error %d", i, e)
		}
	}
	bad := []api.Config{
		{},
		change(func(c *api.Config) { c.Mtu = api.MinMtu - 1 }),
		change(func(c *api.Config) { c.Mtu = api.MaxBody + 1 }),
		change(func(c *api.Config) { c.Mtu = -1 << 63 }),
		change(func(c *api.Config) { c.Mtu = 1<<63 - 1 }),
		change(func(c *api.Config) { c.Streams = 0 }),
		change(func(c *api.Config) { c.Streams = api.MaxStreams + 1 }),
		change(func(c *api.Config) { c.Ring = 0 }),
		change(func(c *api.Config) { c.Ring = -1 << 63 }),
		change(func(c *api.Config) { c.Ring = api.MaxRing + 1 }),
		change(func(c *api.Config) { c.Macs[0] = api.Everybody }),
		change(func(c *api.Config) { c.Macs[1] = api.Everybody }),
		change(func(c *api.Config) { c.Macs[1] = 1<<64 - 1 }),
		change(func(c *api.Config) { c.Addrs[1] = c.Addrs[0] }),
		change(func(c *api.Config) { c.Peers[1] = c.Peers[0] }),
	}
	for i, c := range bad {
		if h, e := host.New(c, []byte(secret)); h != nil || e != api.ErrArg {
			t.Errorf("bad settings %d: error %d", i, e)
		}
	}
	h := newHost(t, config())
	wantUsed(t, h, 0, 0, 0)
	wantCounts(t, h, api.Counts{})
	step(t, h, 0)
}

// P17.1: frames come into a ring, and leave one.
func TestFrameAndOut(t *testing.T) {
	c := config()
	c.Ring = 2
	h := newHost(t, c)
	for _, i := range []int{-1, 2, 1 << 62, -1 << 63} {
		wantErr(t, "Frame", h.Frame(i, []byte{1}), api.ErrArg)
		b, e := h.Out(i)
		if wantErr(t, "Out", e, api.ErrArg); b != nil {
			t.Fatal("bytes beside an error")
		}
	}
	wantErr(t, "no byte", h.Frame(0, nil), api.ErrLimit)
	wantErr(t, "too many", h.Frame(0, make([]byte, api.MaxFrame+1)), api.ErrLimit)
	for i := range api.Cards {
		wantErr(t, "Frame", h.Frame(i, make([]byte, api.MaxFrame)), api.OK)
		wantErr(t, "Frame", h.Frame(i, []byte{1}), api.OK)
		wantErr(t, "Frame", h.Frame(i, []byte{1}), api.ErrFull)
		_, e := h.Out(i)
		wantErr(t, "Out", e, api.ErrEmpty)
	}
	wantUsed(t, h, 0, 0, 4)
	wantCounts(t, h, api.Counts{})
	step(t, h, 1)
	wantUsed(t, h, 0, 0, 0)
	wantCounts(t, h, api.Counts{Alien: 0, Bad: 4})
	for range 3 { // descriptors are given back
		wantErr(t, "Frame", h.Frame(0, []byte{1}), api.OK)
		wantErr(t, "Frame", h.Frame(0, []byte{1}), api.OK)
		step(t, h, 1)
	}
	wantCounts(t, h, api.Counts{Bad: 10})
}

// P17.1: a frame that was sent leaves its descriptor.
func TestOutGivesBack(t *testing.T) {
	c := config()
	c.Ring = 1
	h := newHost(t, c)
	ask := arpFrame(t, 0, api.Arp{Op: 1, FromMac: far, FromIP: 11, ToIP: 10})
	for now := range 5 {
		feed(t, h, now, 0, ask)
		wantUsed(t, h, 0, 0, 1)
		if l := outs(t, h, 0); len(l) != 1 {
			t.Fatal("frames:", len(l))
		}
	}
	wantCounts(t, h, api.Counts{})
	feed(t, h, 9, 0, ask)
	feed(t, h, 9, 0, ask) // no room for its answer
	wantCounts(t, h, api.Counts{Dropped: 1})
}

// P17.2: which ticks may be.
func TestStepErrors(t *testing.T) {
	h := newHost(t, config())
	const last = api.MaxTick - api.MaxLife
	for _, now := range []int{-1, last + 1, -1 << 63, 1<<63 - 1} {
		wantErr(t, "Step", h.Step(now, 1), api.ErrArg)
	}
	wantErr(t, "Frame", h.Frame(0, []byte{1}), api.OK)
	step(t, h, 7)
	wantErr(t, "Frame", h.Frame(0, []byte{1}), api.OK)
	wantErr(t, "a Step back", h.Step(6, 1), api.ErrTick)
	wantErr(t, "a Step back, and out of range", h.Step(-1, 1), api.ErrArg)
	wantUsed(t, h, 0, 0, 1) // nothing was taken
	step(t, h, 7)
	wantCounts(t, h, api.Counts{Bad: 2})
	step(t, h, last)
	wantErr(t, "a Step back", h.Step(last-1, 1), api.ErrTick)
	step(t, h, last)
}

// P17.2: the cache's questions are asked again, and given up.
func TestStepAsksAgain(t *testing.T) {
	h := newHost(t, config())
	connect(t, h, 9, 5, 1)
	asked := 0
	for now := 1; now < 30; now++ {
		step(t, h, now)
		for _, b := range outs(t, h, 0) {
			x, _ := ether.Take(b)
			a, e := ether.TakeArp(x.Body)
			if e != api.OK || a.Op != 1 || a.ToIP != 11 || now%api.ArpAgain != 1 {
				t.Fatalf("at %d: %+v", now, a)
			}
			asked++
		}
	}
	if asked != api.ArpTries || len(h.Near(0)) != 1 || h.Near(0)[0].Pending != 1 {
		t.Fatal("asked", asked, h.Near(0))
	}
	step(t, h, 31) // the first Init is given up with the neighbour, and the next one asks anew
	if l := h.Near(0); len(l) != 1 || l[0].Pending != 1 || l[0].Known {
		t.Fatal("near:", l)
	}
}

// P17.2: pieces are not held for ever.
func TestStepDropsPieces(t *testing.T) {
	h := newHost(t, config())
	p := api.Packet{Src: 11, Dst: 10, Proto: api.ProtoIcmp, ID: 1, More: true, Body: make([]byte, 8)}
	feed(t, h, 1, 0, packetFrame(t, 0, p))
	wantUsed(t, h, 0, 1, 0)
	step(t, h, api.MaxHold)
	wantUsed(t, h, 0, 1, 0)
	step(t, h, api.MaxHold+1)
	wantUsed(t, h, 0, 0, 0)
}

// P17.2: associations are let know of time, and what they send is sent.
func TestStepTicks(t *testing.T) {
	h := newHost(t, config())
	meetNeighbours(t, h, 3)
	id := connect(t, h, 9, 5, 2<<32|1)
	wantSent(t, h, 0) // nothing, ahead of the next Step
	ask := sent{api.Head{From: 9, To: 5}, []api.Chunk{{Type: api.Init, Tag: 1, Room: api.MaxRoom, Outs: 2, Ins: 2, TSN: 2}}}
	step(t, h, 3)
	wantSent(t, h, 0, ask)
	step(t, h, 32) // it was opened at tick 3, and waits 30 ticks
	wantSent(t, h, 0)
	step(t, h, 33)
	wantSent(t, h, 0, ask)
	wantState(t, h, id, api.CookieWait)
	wantSent(t, h, 1)
}

// P17.2: two that ask in one Step are told unlike tags; the same Step tells the same.
func TestDraws(t *testing.T) {
	answers := func(draw uint64) []sent {
		h := newHost(t, config())
		meetNeighbours(t, h, 0)
		listen(t, h, 5)
		for i := range api.Cards {
			for from := range uint16(4) {
				wantErr(t, "Frame", h.Frame(i, chunksFrame(t, i, api.Head{From: from + 1, To: 5}, initOf(7))), api.OK)
			}
		}
		wantErr(t, "Step", h.Step(1, draw), api.OK)
		return append(sents(t, h, 0), sents(t, h, 1)...)
	}
	seen := map[uint32]bool{}
	for draw := range uint64(10) {
		l, again := answers(draw), answers(draw)
		if len(l) != 8 {
			t.Fatal("answers:", len(l))
		}
		for i, s := range l {
			tag := s.chunks[0].Tag
			if seen[tag] || tag != again[i].chunks[0].Tag || s.chunks[0].TSN != again[i].chunks[0].TSN {
				t.Fatal("a tag", tag)
			}
			seen[tag] = true
		}
	}
}

// P17.6: what a host counts and uses, of nil too.
func TestNil(t *testing.T) {
	var h *host.Host
	wantErr(t, "Frame", h.Frame(5, nil), api.ErrNil)
	b, e := h.Out(5)
	wantErr(t, "Out", e, api.ErrNil)
	wantErr(t, "Step", h.Step(-1, 0), api.ErrNil)
	n, e := h.Bind(0)
	wantErr(t, "Bind", e, api.ErrNil)
	wantErr(t, "Listen", h.Listen(1), api.ErrNil)
	wantErr(t, "Connect", h.Connect(1, 0, 0), api.ErrNil)
	k, e := h.Accept(1)
	wantErr(t, "Accept", e, api.ErrNil)
	wantErr(t, "Send", h.Send(1, api.Msg{}), api.ErrNil)
	m, e := h.Recv(1)
	wantErr(t, "Recv", e, api.ErrNil)
	x, e := h.Notice(1)
	wantErr(t, "Notice", e, api.ErrNil)
	wantErr(t, "Shutdown", h.Shutdown(1), api.ErrNil)
	wantErr(t, "Abort", h.Abort(1), api.ErrNil)
	wantErr(t, "Close", h.Close(1), api.ErrNil)
	s, e := h.State(1)
	wantErr(t, "State", e, api.ErrNil)
	own, peer, e := h.Tags(1)
	wantErr(t, "Tags", e, api.ErrNil)
	if len(b) != 0 || n != 0 || k != 0 || m.Data != nil || x != 0 || s != 0 || own != 0 || peer != 0 {
		t.Fatal("something beside an error")
	}
	wantCounts(t, h, api.Counts{})
	wantUsed(t, h, 0, 0, 0)
	if len(h.Near(0)) != 0 || len(h.Near(7)) != 0 {
		t.Fatal("near nil")
	}
}

// P17.6: each card has neighbours of its own.
func TestNear(t *testing.T) {
	h := newHost(t, config())
	meetNeighbours(t, h, 1)
	for i, ip := range []uint32{11, 21} {
		if l := h.Near(i); len(l) != 1 || l[0] != (api.Neighbour{IP: ip, Mac: far, Known: true}) {
			t.Fatal("near", i, l)
		}
	}
	for _, i := range []int{-1, 2, 1 << 62} {
		if l := h.Near(i); len(l) != 0 {
			t.Fatal("near", i, l)
		}
	}
	step(t, h, api.ArpAge)
	if len(h.Near(0)) != 1 {
		t.Fatal("forgotten too soon")
	}
	step(t, h, api.ArpAge+1)
	if len(h.Near(0)) != 0 {
		t.Fatal("never forgotten")
	}
}

// P3: what is handed in stays as it is, and is not kept; what is answered is new.
func TestMemory(t *testing.T) {
	key := []byte("a secret..")
	h, e := host.New(config(), key[:8])
	wantErr(t, "New", e, api.OK)
	other := newHostOf(t, "a secret")
	if string(key) != "a secret.." {
		t.Fatal("the secret was changed")
	}
	copy(key, "........")
	meetNeighbours(t, h, 1)
	meetNeighbours(t, other, 1)
	listen(t, h, 5)
	listen(t, other, 5)
	cookie := cookieFor(t, h, 1, 9, 5, 7)
	feed(t, other, 1, 0, sctpFrame(t, 0, cookie))
	if n := accept(t, other, 1); n != 2 {
		t.Fatal("the secret was kept as it was handed in")
	}

	p := packetFrame(t, 0, api.Packet{Src: 11, Dst: 10, Proto: api.ProtoIcmp, ID: 3, Body: ip.PutIcmp(api.Icmp{Type: 8, Body: []byte("ping")})})
	spare := append(bytes.Clone(p), 1, 2, 3)
	wantErr(t, "Frame", h.Frame(0, spare[:len(p)]), api.OK)
	if !bytes.Equal(spare[:len(p)], p) || !bytes.Equal(spare[len(p):], []byte{1, 2, 3}) {
		t.Fatal("a frame was changed")
	}
	clear(spare)
	step(t, h, 2)
	if l := packets(t, h, 0); len(l) != 1 || l[0].ID != 3 {
		t.Fatal("a frame was kept as it was handed in", l)
	}

	near := h.Near(0)
	near[0].Mac = 5
	if h.Near(0)[0].Mac != far {
		t.Fatal("neighbours were handed out as they are kept")
	}
}

func newHostOf(t *testing.T, key string) *host.Host {
	t.Helper()
	h, e := host.New(config(), []byte(key))
	wantErr(t, "New", e, api.OK)
	return h
}

// P3: a message's bytes are the caller's, ahead of Send and behind Recv.
func TestMemoryOfMessages(t *testing.T) {
	w, id := linkedTwo(t)
	data := []byte("message")
	for range 2 {
		wantErr(t, "Send", w.hosts[0].Send(1, api.Msg{Data: data}), api.OK)
	}
	clear(data)
	w.calm(t, 3)
	m, e := w.hosts[1].Recv(id)
	if wantErr(t, "Recv", e, api.OK); string(m.Data) != "message" {
		t.Fatalf("told %q", m.Data)
	}
	clear(m.Data[:cap(m.Data)])
	wantTold(t, w.hosts[1], id, "message")
}
