package assoc_test

import (
	"bytes"
	"slices"
	"testing"

	"trunkline/api"
	"trunkline/assoc"
	"trunkline/chunk"
)

// flier is a packet under way.
type flier struct {
	to    int
	way   int
	bytes []byte
}

// ledger is what one side sent, and how much of it the other side told.
type ledger struct {
	ordered [api.MaxStreams][]api.Msg
	told    [api.MaxStreams]int
	free    []api.Msg
}

// net is two sides and what is under way between them: side 0 asks, side 1 is made by a listener.
type net struct {
	t       *testing.T
	draw    func() uint64
	now     int
	l       *assoc.Listener
	sides   [2]*assoc.Assoc
	air     []flier
	books   [2]ledger
	notices [2][]api.Notice
	cut     [api.Paths]bool
	idle    bool // nobody takes what came
}

func newNet(t *testing.T, seed uint64, mtus [2]int) *net {
	t.Helper()
	n := &net{t: t, draw: draws(seed)}
	n.now = int(n.draw() % 1000)
	l, e := assoc.Listen(api.Side{Port: 5, Streams: 1 + int(n.draw()%4), Mtu: mtus[1]}, []byte("key"))
	a, f := assoc.Open(api.Side{Port: 9, PeerPort: 5, Streams: 1 + int(n.draw()%4), Mtu: mtus[0]}, n.now, n.draw())
	if e != api.OK || f != api.OK {
		t.Fatal("a net", e, f)
	}
	n.l, n.sides[0] = l, a
	return n
}

func (n *net) below(k int) int { return int(n.draw() % uint64(k)) }

// lift has all that is to be sent be under way.
func (n *net) lift() {
	for k, a := range n.sides {
		mtu := 0
		for _, s := range a.Pull() {
			mtu = max(mtu, len(s.Bytes)+api.HeadIP)
			if !n.cut[s.Way] {
				n.air = append(n.air, flier{to: 1 - k, way: s.Way, bytes: s.Bytes})
			}
		}
		if mtu > api.MaxBody {
			n.t.Fatal("a packet of", mtu)
		}
	}
}

// stray is what a host would do with a packet that no association takes.
func (n *net) stray(f flier, h api.Head, l []api.Chunk) {
	for _, c := range l {
		if c.Type == api.ShutdownAck {
			b, _ := chunk.Put(api.Head{From: h.To, To: h.From, Tag: h.Tag}, []api.Chunk{{Type: api.ShutdownComplete, Flags: 1}})
			n.air = append(n.air, flier{to: 1 - f.to, way: f.way, bytes: b})
		}
	}
}

func (n *net) land(f flier) {
	h, l, e := chunk.Take(f.bytes)
	if e != api.OK {
		n.t.Fatal("a packet that is none", e)
	}
	switch {
	case f.to == 1 && l[0].Type == api.Init:
		b, e := n.l.Init(f.bytes, n.now, n.draw())
		if e != api.OK {
			n.t.Fatal("Init", e)
		}
		n.air = append(n.air, flier{to: 0, way: f.way, bytes: b})
		return
	case f.to == 1 && l[0].Type == api.CookieEcho:
		if n.l.Twice(n.sides[1], f.bytes, f.way, n.now) {
			return
		}
		if n.sides[1] == nil {
			n.sides[1], _ = n.l.Echo(f.bytes, f.way, n.now)
		}
		return
	}
	if n.sides[f.to].Take(f.bytes, f.way, n.now) != api.OK {
		n.stray(f, h, l)
	}
}

// collect takes the notices of a side, and as many messages as most.
func (n *net) collect(k, most int) {
	if n.idle {
		most = 0
	}
	for range most {
		m, e := n.sides[k].Recv()
		if e != api.OK {
			break
		}
		n.told(k, m)
	}
	for {
		x, e := n.sides[k].Notice()
		if e != api.OK {
			break
		}
		n.notices[k] = append(n.notices[k], x)
	}
}

// told holds a message that a side told against what the other one sent.
func (n *net) told(k int, m api.Msg) {
	n.t.Helper()
	book := &n.books[1-k]
	if m.Free {
		i := slices.IndexFunc(book.free, func(x api.Msg) bool {
			return x.Stream == m.Stream && x.PPID == m.PPID && bytes.Equal(x.Data, m.Data)
		})
		if i < 0 {
			n.t.Fatal("told, and never sent, or twice:", brief(m))
		}
		book.free = slices.Delete(book.free, i, i+1)
		return
	}
	at := book.told[m.Stream]
	if at >= len(book.ordered[m.Stream]) {
		n.t.Fatal("told, and never sent, or twice:", brief(m))
	}
	x := book.ordered[m.Stream][at]
	if x.PPID != m.PPID || !bytes.Equal(x.Data, m.Data) || int(m.SSN) != at {
		n.t.Fatal("told", brief(m), "; sent", brief(x))
	}
	book.told[m.Stream]++
}

// owes is how many messages of a side were not told.
func (n *net) owes(k int) int {
	book := &n.books[k]
	left := len(book.free)
	for i := range book.told {
		left += len(book.ordered[i]) - book.told[i]
	}
	return left
}

// push has a side send a message, of one that has no like.
func (n *net) push(k int) {
	size := 1 + n.below(40)
	if n.below(3) == 0 {
		size = 1 + n.below(api.MaxMsg)
	}
	m := api.Msg{Stream: uint16(n.below(4)), PPID: uint32(n.draw()), Free: n.below(4) == 0, Data: drawBytes(n.draw, size)}
	if n.sides[k].Send(m) != api.OK {
		return
	}
	book := &n.books[k]
	if m.Free {
		book.free = append(book.free, m)
	} else {
		book.ordered[m.Stream] = append(book.ordered[m.Stream], m)
	}
}

// pass lets time pass.
func (n *net) pass(ticks int) {
	n.now += ticks
	for _, a := range n.sides {
		if a != nil && a.Tick(n.now, n.draw()) != api.OK {
			n.t.Fatal("Tick")
		}
	}
}

// bounds holds both sides against the limits.
func (n *net) bounds() {
	for k, a := range n.sides {
		out, in, inbox := a.Left()
		if out > api.MaxSend || in > api.MaxHeld || inbox >= api.MaxInbox+api.MaxHeld {
			n.t.Fatal("too much at", k, ":", out, in, inbox)
		}
		if a.Stands() == api.Closed && out+in > 0 {
			n.t.Fatal("left at", k, ":", out, in)
		}
		if at, ok := a.Next(); ok != (a.Stands() != api.Closed) || ok && at < n.now-1000 {
			n.t.Fatal("Next", at, ok)
		}
	}
}

// rough is steps in which packets are lost, doubled and overtaken.
func (n *net) rough(steps, loss int) {
	for range steps {
		switch x := n.below(100); {
		case x < 50 && len(n.air) > 0:
			i := n.below(min(len(n.air), 6))
			f := n.air[i]
			if n.below(10) > 0 {
				n.air = slices.Delete(n.air, i, i+1)
			}
			if n.below(100) >= loss {
				n.land(f)
			}
		case x < 65:
			n.pass(n.below(12))
		case x < 75:
			n.push(n.below(2))
		case x < 85:
			n.collect(n.below(2), n.below(4))
		}
		n.lift()
		n.bounds()
	}
}

// calm is ticks in which all that is sent comes, and all that came is taken.
func (n *net) calm(ticks int) {
	for range ticks {
		n.pass(1)
		n.lift()
		for range 200 {
			if len(n.air) == 0 {
				break
			}
			l := n.air
			n.air = nil
			for _, f := range l {
				n.land(f)
			}
			n.collect(0, 1000)
			n.collect(1, 1000)
			n.lift()
		}
		if len(n.air) > 0 {
			n.t.Fatal("it never rests")
		}
		n.collect(0, 1000)
		n.collect(1, 1000)
	}
}

func ends(l []api.Notice) []api.Notice {
	return slices.DeleteFunc(slices.Clone(l), func(x api.Notice) bool { return x == api.Came })
}

// wantSettled: is a net calm, and all told?
func (n *net) wantSettled(seed uint64) {
	n.t.Helper()
	for k, a := range n.sides {
		if a.Stands() != api.Established {
			n.t.Fatal(seed, "it failed", n.notices)
		}
		if left := n.owes(k); left > 0 {
			n.t.Fatal(seed, "never told of side", k, ":", left)
		}
		if out, in, inbox := a.Left(); out+in+inbox > 0 {
			n.t.Fatal(seed, "left at", k, ":", out, in, inbox)
		}
	}
}

func (n *net) isLost() bool {
	return n.sides[0].Stands() == api.Closed || n.sides[1] != nil && n.sides[1].Stands() == api.Closed
}

func mtus(draw func() uint64) [2]int {
	return [2]int{192 + int(draw()%1309), 192 + int(draw()%1309)}
}

// P16.9, P16.10: whatever is lost, doubled, overtaken, no message is told twice, in another order, or that was not sent; and once all packets come, all is told.
func TestAllIsTold(t *testing.T) {
	for seed := range uint64(150) {
		draw := draws(seed)
		n := newNet(t, seed, mtus(draw))
		n.rough(int(draw()%1500), int(draw()%16))
		n.calm(1500)
		n.wantSettled(seed)
	}
}

// P16.9: where so much is lost that some fail, too, what is told is what was sent.
func TestNothingElseIsTold(t *testing.T) {
	lost := 0
	for seed := range uint64(150) {
		draw := draws(seed + 5000)
		n := newNet(t, seed+5000, mtus(draw))
		n.rough(int(draw()%1500), 16+int(draw()%50))
		n.calm(1500)
		if n.isLost() {
			lost++
			continue
		}
		n.wantSettled(seed)
	}
	if lost == 0 || lost > 75 {
		t.Fatal("lost:", lost)
	}
}

// P16.10: an inbox that nobody takes from fills up, and its room shrinks to none; when it is taken from, all goes on.
func TestNobodyTakes(t *testing.T) {
	for seed := range uint64(20) {
		draw := draws(seed + 9000)
		n := newNet(t, seed+9000, mtus(draw))
		n.calm(2)
		n.idle = true
		for range 300 {
			n.push(0)
			n.push(1)
			n.calm(int(draw() % 9))
		}
		n.calm(2000)
		_, _, inbox := n.sides[1].Left()
		if out, _, _ := n.sides[0].Left(); out == 0 || inbox == 0 {
			t.Fatal(seed, "it was never full:", out, inbox)
		}
		n.idle = false
		n.calm(2000)
		n.wantSettled(seed)
	}
}

// P16.10: one line that is cut has all go by the other one; when it answers again it is up.
func TestOneLineIsCut(t *testing.T) {
	for cut := range api.Paths {
		n := newNet(t, uint64(cut), [2]int{500, 500})
		n.calm(2)
		n.cut[cut] = true
		for range 30 {
			n.push(0)
			n.push(1)
			n.calm(100)
		}
		n.wantSettled(0)
		for _, a := range n.sides {
			if way(t, a, cut).Up || !way(t, a, 1-cut).Up {
				t.Fatalf("line %d is cut: %+v, %+v", cut, way(t, a, 0), way(t, a, 1))
			}
		}
		n.cut[cut] = false
		n.calm(1300)
		n.wantSettled(0)
		for _, a := range n.sides {
			if w := way(t, a, cut); !w.Up || !w.Sure {
				t.Fatalf("line %d answers: %+v", cut, w)
			}
		}
		n.cut[cut] = true
		n.sides[cut].Shutdown()
		n.calm(3000)
		for k := range n.sides {
			if l := ends(n.notices[k]); len(l) != 1 || l[0] != api.Done {
				t.Fatal("side", k, "was told", n.notices[k])
			}
		}
	}
}

// P16.12: both lines are cut: each side is told once that it is lost, and holds nothing.
func TestBothLinesAreCut(t *testing.T) {
	n := newNet(t, 3, [2]int{500, 500})
	n.calm(2)
	n.push(0)
	n.cut = [api.Paths]bool{true, true}
	n.calm(5000)
	for k, a := range n.sides {
		if l := ends(n.notices[k]); len(l) != 1 || l[0] != api.Lost {
			t.Fatal("side", k, "was told", n.notices[k])
		}
		wantState(t, a, api.Closed)
		wantLeft(t, a, 0, 0, 0)
		wantNoNext(t, a)
		wantPull(t, a)
	}
}

// P16.12: behind Shutdown, and time, both sides have ended with Done, and all is told; else each side is told once how it ended, and nothing is left.
func TestAllEnds(t *testing.T) {
	done := 0
	for seed := range uint64(150) {
		draw := draws(seed + 1000)
		n := newNet(t, seed+1000, mtus(draw))
		n.calm(2)
		n.rough(int(draw()%600), int(draw()%40))
		both := draw()%2 == 0
		for k := range n.sides {
			if both || k == int(seed%2) {
				n.sides[k].Shutdown()
			}
		}
		n.rough(int(draw()%300), int(draw()%40))
		n.calm(3000)
		ways := [2]api.Notice{}
		for k, a := range n.sides {
			l := ends(n.notices[k])
			if len(l) != 1 || a.Stands() != api.Closed {
				t.Fatal(seed, "side", k, "was told", n.notices[k], a.Stands())
			}
			ways[k] = l[0]
			wantLeft(t, a, 0, 0, 0)
			wantNoNext(t, a)
		}
		if ways == [2]api.Notice{api.Done, api.Done} {
			done++
			if n.owes(0)+n.owes(1) > 0 {
				t.Fatal(seed, "done, and never told:", n.owes(0), n.owes(1))
			}
		}
	}
	if done < 145 {
		t.Fatal("too few were done:", done)
	}
}
