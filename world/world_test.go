package world_test

import (
	"bytes"
	"fmt"
	"testing"

	"trunkline/api"
	"trunkline/ether"
	"trunkline/host"
	"trunkline/ip"
	"trunkline/sums"
	"trunkline/world"
)

// P18.1: which worlds may be.
func TestNew(t *testing.T) {
	for _, x := range [][3]int{{api.MinMtu, 1, 1}, {api.MaxBody, api.MaxRing, api.MaxStreams}} {
		w := newWorld(t, x[0], x[1], x[2], 0)
		if w.Now() != 0 || len(w.Trace()) != 0 || w.Host(0) == nil || w.Host(1) == nil || w.Host(0) == w.Host(1) {
			t.Fatal("a new world")
		}
	}
	for _, x := range [][3]int{
		{api.MinMtu - 1, 1, 1}, {api.MaxBody + 1, 1, 1}, {-1 << 63, 1, 1},
		{200, 0, 1}, {200, api.MaxRing + 1, 1}, {200, 1, 0}, {200, 1, api.MaxStreams + 1}, {0, 0, 0},
	} {
		if w, e := world.New(x[0], x[1], x[2], 1); w != nil || e != api.ErrArg {
			t.Error(x, e)
		}
	}
}

// P18.1, P18.2: of nil.
func TestNil(t *testing.T) {
	var w *world.World
	if n, e := w.Do(api.Act{Do: 99}); n != 0 || e != api.ErrNil {
		t.Fatal("Do", n, e)
	}
	if w.Host(0) != nil || w.Now() != 0 || len(w.Trace()) != 0 {
		t.Fatal("something of nil")
	}
	if line, to, b := w.Air(0); line != -1 || to != -1 || b != nil {
		t.Fatal("Air", line, to, b)
	}
}

// P18.1: what is told of a world.
func TestTells(t *testing.T) {
	w := newWorld(t, 200, 4, 2, 1)
	for _, k := range []int{-1, 2, 1 << 62} {
		if w.Host(k) != nil {
			t.Fatal("host", k)
		}
	}
	for _, n := range []int{-1, 0, 1, 1 << 62} {
		if line, to, b := w.Air(n); line != -1 || to != -1 || b != nil {
			t.Fatal("Air", line, to, b)
		}
	}
}

// The words: which addresses hosts have, by what they ask first.
func TestAddresses(t *testing.T) {
	for k := range 2 {
		w := newWorld(t, 200, 4, 2, 1)
		echo := ip.PutIcmp(api.Icmp{Type: 8})
		for i := range api.Cards {
			own := uint32(10<<24 | i<<8 | k + 1)
			peer := uint32(10<<24 | i<<8 | 2 - k)
			mac := uint64(0x020000000000 | i<<8 | k + 1)
			p, _ := ip.Put(api.Packet{Src: peer, Dst: own, Proto: api.ProtoIcmp, Body: echo})
			f, _ := ether.Put(api.Ether{To: mac, From: 7, Kind: api.KindIP, Body: p})
			do(t, w, api.Act{Do: api.Forge, Host: k, N: i, Bytes: f}, api.Act{Do: api.Step, Host: k}, api.Act{Do: api.Lift, Host: k, N: i})
			line, to, b := w.Air(i)
			x, _ := ether.Take(b)
			a, e := ether.TakeArp(x.Body)
			if line != i || to != 1-k || x.From != mac || e != api.OK || a != (api.Arp{Op: 1, FromMac: mac, FromIP: own, ToIP: peer}) {
				t.Fatalf("host %d, card %d: line %d to %d: %+v", k, i, line, to, a)
			}
		}
		if c := w.Host(k).Count(); c != (api.Counts{}) {
			t.Fatal("counts", c)
		}
	}
}

// P18.2: acts that are none, and at no host.
func TestActs(t *testing.T) {
	w := newWorld(t, 200, 4, 2, 1)
	for _, d := range []api.Deed{api.NoDeed, -1, api.Calm + 1, 1 << 62, -1 << 63} {
		wantErr(t, w, api.Act{Do: d}, api.ErrType)
		wantErr(t, w, api.Act{Do: d, Host: 9}, api.ErrType)
	}
	for _, k := range []int{-1, 2, 1 << 62, -1 << 63} {
		for d := api.Bind; d <= api.Step; d++ {
			wantErr(t, w, api.Act{Do: d, Host: k, N: 5}, api.ErrArg)
		}
		wantErr(t, w, api.Act{Do: api.Lift, Host: k}, api.ErrArg)
		wantErr(t, w, api.Act{Do: api.Forge, Host: k, Bytes: []byte{1}}, api.ErrArg)
		do(t, w, api.Act{Do: api.Wait, Host: k}, api.Act{Do: api.Calm, Host: k, N: 1})
	}
	if len(w.Trace()) != 0 || w.Now() != 4 {
		t.Fatal("a trace, or time")
	}
}

// P18.2: the acts of sockets are the host's calls, with their errors.
func TestSocketActs(t *testing.T) {
	w := newWorld(t, 200, 16, 2, 1)
	for _, n := range []int{-1, 65536, 1 << 62, -1 << 63} {
		wantErr(t, w, api.Act{Do: api.Bind, N: n}, api.ErrArg)
		wantErr(t, w, api.Act{Do: api.Connect, Id: 5, N: n}, api.ErrArg) // named ahead of the call's
	}
	wantErr(t, w, api.Act{Do: api.Bind, N: 0}, api.ErrPort)
	if n := do(t, w, api.Act{Do: api.Bind, N: 65535}); n != 1 {
		t.Fatal("a number", n)
	}
	if n := do(t, w, api.Act{Do: api.Bind, N: 9}); n != 2 {
		t.Fatal("a number", n)
	}
	wantErr(t, w, api.Act{Do: api.Bind, N: 9}, api.ErrPort)
	do(t, w, api.Act{Do: api.Bind, Host: 1, N: 9}) // hosts have ports of their own
	for d := api.Listen; d <= api.Free; d++ {
		wantErr(t, w, api.Act{Do: d, Id: 7}, api.ErrGone)
	}
	for _, d := range []api.Deed{api.Accept, api.Push, api.Take, api.Hear, api.Shut, api.Kill} {
		wantErr(t, w, api.Act{Do: d, Id: 1}, api.ErrState)
	}
	wantErr(t, w, api.Act{Do: api.Connect, Id: 1, N: 0}, api.ErrPort)
	do(t, w, api.Act{Do: api.Listen, Id: 1})
	wantErr(t, w, api.Act{Do: api.Listen, Id: 1}, api.ErrState)
	wantErr(t, w, api.Act{Do: api.Accept, Id: 1}, api.ErrEmpty)
	do(t, w, api.Act{Do: api.Connect, Id: 2, N: 5})
	wantErr(t, w, api.Act{Do: api.Hear, Id: 2}, api.ErrEmpty)
	wantErr(t, w, api.Act{Do: api.Take, Id: 2}, api.ErrEmpty)
	wantErr(t, w, api.Act{Do: api.Push, Id: 2, Msg: api.Msg{Data: []byte{1}}}, api.ErrState)
	wantErr(t, w, api.Act{Do: api.Shut, Id: 2}, api.ErrState)
	do(t, w, api.Act{Do: api.Kill, Id: 2}, api.Act{Do: api.Free, Id: 2}, api.Act{Do: api.Free, Id: 1})
	wantErr(t, w, api.Act{Do: api.Free, Id: 1}, api.ErrGone)
	if len(w.Trace()) != 0 {
		t.Fatal("marks", w.Trace())
	}
}

// P18.2: marks: of what was sent, got, told, and of shutting down.
func TestMarks(t *testing.T) {
	w, id := met(t, 500, 16, 2, 3)
	own, peer, _ := w.Host(0).Tags(1)
	m := api.Msg{Stream: 1, SSN: 99, PPID: 7, Free: true, Data: []byte("message")}
	do(t, w, api.Act{Do: api.Push, Id: 1, Msg: m})
	wantErr(t, w, api.Act{Do: api.Push, Id: 1}, api.ErrLimit) // no mark
	wantErr(t, w, api.Act{Do: api.Take, Host: 1, Id: id}, api.ErrEmpty)
	do(t, w, api.Act{Do: api.Calm, N: 3}, api.Act{Do: api.Take, Host: 1, Id: id})
	do(t, w, api.Act{Do: api.Shut, Host: 1, Id: id}, api.Act{Do: api.Calm, N: 3})
	wantErr(t, w, api.Act{Do: api.Shut, Host: 1, Id: id}, api.ErrState)
	do(t, w, api.Act{Do: api.Hear, Id: 1})
	got := m
	got.SSN = 0
	want := []api.Mark{
		{Is: api.Told, Own: own, Peer: peer, Notice: api.Came},
		{Is: api.Told, Host: 1, Own: peer, Peer: own, Notice: api.Came},
		{Is: api.Sent, Own: own, Peer: peer, Msg: m},
		{Is: api.Got, Host: 1, Own: peer, Peer: own, Msg: got},
		{Is: api.Shutting, Host: 1, Own: peer, Peer: own},
		{Is: api.Told, Own: own, Peer: peer, Notice: api.Done},
	}
	if l := w.Trace(); fmt.Sprintf("%+v", l) != fmt.Sprintf("%+v", want) {
		t.Fatalf("a trace: %+v;\nwant %+v", l, want)
	}
}

// P18.2: one that was never answered is told of without the peer's tag.
func TestMarkWithoutPeer(t *testing.T) {
	w := newWorld(t, 500, 16, 2, 3)
	do(t, w, api.Act{Do: api.Bind, N: 9}, api.Act{Do: api.Connect, Id: 1, N: 5}, api.Act{Do: api.Calm, N: 2}, api.Act{Do: api.Hear, Id: 1})
	own, _, _ := w.Host(0).Tags(1)
	if l := w.Trace(); len(l) != 1 || l[0].Own != own || l[0].Peer != 0 || l[0].Notice != api.Aborted {
		t.Fatalf("a trace: %+v", l)
	}
}

// P18.2: a trace has no more than MaxMarks marks: then nothing may be done.
func TestMaxMarks(t *testing.T) {
	w, id := met(t, 500, 16, 2, 3)
	for len(w.Trace()) < api.MaxMarks {
		for range 50 {
			if _, e := w.Do(api.Act{Do: api.Push, Id: 1, Msg: api.Msg{Data: []byte{1}}}); e != api.OK && e != api.ErrLimit {
				t.Fatal("Push", e)
			}
		}
		if len(w.Trace()) == api.MaxMarks {
			break
		}
		do(t, w, api.Act{Do: api.Calm, N: 5})
		for {
			if _, e := w.Do(api.Act{Do: api.Take, Host: 1, Id: id}); e != api.OK {
				break
			}
		}
	}
	now := w.Now()
	for d := api.Bind; d <= api.Calm; d++ {
		wantErr(t, w, api.Act{Do: d, Id: 1, N: 1}, api.ErrLimit)
	}
	wantErr(t, w, api.Act{Do: 99}, api.ErrLimit) // named first
	if len(w.Trace()) != api.MaxMarks || w.Now() != now {
		t.Fatal("something was done")
	}
}

// P18.2: frames are lifted behind the others, land as often as one likes, are dropped.
func TestFrames(t *testing.T) {
	w := newWorld(t, 200, 8, 2, 1)
	wantErr(t, w, api.Act{Do: api.Lift}, api.ErrEmpty)
	for _, n := range []int{-1, 2, 1 << 62} {
		wantErr(t, w, api.Act{Do: api.Lift, N: n}, api.ErrArg)
		wantErr(t, w, api.Act{Do: api.Forge, N: n, Bytes: []byte{1}}, api.ErrArg)
	}
	wantErr(t, w, api.Act{Do: api.Forge}, api.ErrLimit)
	for _, d := range []api.Deed{api.Land, api.Drop, api.Flip} {
		for _, n := range []int{-1, 0, 1, 1 << 62} {
			wantErr(t, w, api.Act{Do: d, N: n, Id: 40, Host: 1}, api.ErrArg)
		}
	}
	do(t, w, api.Act{Do: api.Bind, N: 9}, api.Act{Do: api.Connect, Id: 1, N: 5}, api.Act{Do: api.Step}, api.Act{Do: api.Lift})
	wantErr(t, w, api.Act{Do: api.Lift}, api.ErrEmpty)
	_, to, question := w.Air(0)
	if to != 1 || len(question) != 42 {
		t.Fatal("a question", to, len(question))
	}
	for range 8 {
		do(t, w, api.Act{Do: api.Land})
	}
	wantErr(t, w, api.Act{Do: api.Land}, api.ErrFull) // the host's ring
	if _, _, b := w.Air(0); !bytes.Equal(b, question) {
		t.Fatal("it is no more under way")
	}
	do(t, w, api.Act{Do: api.Step, Host: 1})
	for range 8 {
		do(t, w, api.Act{Do: api.Lift, Host: 1})
	}
	if line, to, b := w.Air(8); line != 0 || to != 0 || len(b) != 42 {
		t.Fatal("an answer", line, to, len(b))
	}
	do(t, w, api.Act{Do: api.Drop, N: 0})
	if _, to, _ := w.Air(0); to != 0 {
		t.Fatal("the first one is there yet")
	}
	if _, to, _ := w.Air(7); to != 0 {
		t.Fatal("the last one is gone")
	}
	if _, to, _ := w.Air(8); to != -1 {
		t.Fatal("one too many")
	}
	do(t, w, api.Act{Do: api.Land, N: 7}, api.Act{Do: api.Step}, api.Act{Do: api.Lift})
	if _, to, b := w.Air(8); to != 1 || len(b) < 60 {
		t.Fatal("no Init", to, len(b))
	}
}

// P18.2: the frames of a line come to the card of that line.
func TestLines(t *testing.T) {
	w := newWorld(t, 200, 8, 2, 1)
	for i := range api.Cards {
		do(t, w, api.Act{Do: api.Forge, N: i, Bytes: asking(t, i)}, api.Act{Do: api.Step}, api.Act{Do: api.Lift, N: i})
		if line, to, _ := w.Air(i); line != i || to != 1 {
			t.Fatal("line", line, to)
		}
		do(t, w, api.Act{Do: api.Land, N: i}, api.Act{Do: api.Step, Host: 1})
		if c := w.Host(1).Count(); c != (api.Counts{}) {
			t.Fatal("line", i, c)
		}
	}
}

// asking is a question of host 1's card, which host 0 answers.
func asking(t *testing.T, i int) []byte {
	t.Helper()
	a, _ := ether.PutArp(api.Arp{Op: 1, FromMac: uint64(0x020000000002 | i<<8), FromIP: uint32(10<<24 | i<<8 | 2), ToIP: uint32(10<<24 | i<<8 | 1)})
	f, e := ether.Put(api.Ether{To: api.Everybody, From: uint64(0x020000000002 | i<<8), Kind: api.KindArp, Body: a})
	if e != api.OK {
		t.Fatal(e)
	}
	return f
}

// P18.2: MaxAir frames are under way at most: one more is lost.
func TestMaxAir(t *testing.T) {
	w := newWorld(t, 200, 1, 2, 1)
	for range api.MaxAir + 3 {
		do(t, w, api.Act{Do: api.Forge, Bytes: asking(t, 0)}, api.Act{Do: api.Step}, api.Act{Do: api.Lift})
		wantErr(t, w, api.Act{Do: api.Lift}, api.ErrEmpty)
	}
	if _, to, _ := w.Air(api.MaxAir - 1); to != 1 {
		t.Fatal("too few")
	}
	if _, to, _ := w.Air(api.MaxAir); to != -1 {
		t.Fatal("too many")
	}
	do(t, w, api.Act{Do: api.Drop, N: 3}, api.Act{Do: api.Forge, Bytes: asking(t, 0)}, api.Act{Do: api.Step}, api.Act{Do: api.Lift})
	if _, to, _ := w.Air(api.MaxAir - 1); to != 1 {
		t.Fatal("no room")
	}
}

// P18.2: a byte behind the heads is flipped, once.
func TestFlip(t *testing.T) {
	w, id := met(t, 200, 16, 2, 5)
	do(t, w, api.Act{Do: api.Push, Id: 1, Msg: api.Msg{Data: make([]byte, 50)}}, api.Act{Do: api.Step}, api.Act{Do: api.Lift})
	_, _, before := w.Air(0)
	for _, a := range []api.Act{
		{Id: 33, Host: 1}, {Id: -1, Host: 1}, {Id: len(before), Host: 1}, {Id: 1 << 62, Host: 1}, {Id: -1 << 63, Host: 1},
		{Id: 34, Host: 0}, {Id: 34, Host: 256}, {Id: 34, Host: -1}, {Id: 34, Host: 1 << 62},
	} {
		a.Do = api.Flip
		wantErr(t, w, a, api.ErrArg)
	}
	if _, _, b := w.Air(0); !bytes.Equal(b, before) {
		t.Fatal("flipped")
	}
	last := len(before) - 1
	do(t, w, api.Act{Do: api.Flip, Id: last, Host: 255})
	_, _, after := w.Air(0)
	want := bytes.Clone(before)
	want[last] ^= 255
	if !bytes.Equal(after, want) {
		t.Fatal("flipped otherwise")
	}
	wantErr(t, w, api.Act{Do: api.Flip, Id: 34, Host: 1}, api.ErrKnown)
	wantErr(t, w, api.Act{Do: api.Flip, Id: 33, Host: 0}, api.ErrKnown) // named first
	wantErr(t, w, api.Act{Do: api.Flip, N: 1, Id: 34, Host: 1}, api.ErrArg)
	do(t, w, api.Act{Do: api.Land}, api.Act{Do: api.Step, Host: 1})
	if w.Host(1).Count().Bad != 1 {
		t.Fatal("not bad", w.Host(1).Count())
	}
	wantErr(t, w, api.Act{Do: api.Take, Host: 1, Id: id}, api.ErrEmpty)
	// The first and the last place of another one.
	do(t, w, api.Act{Do: api.Push, Id: 1, Msg: api.Msg{Data: make([]byte, 50)}}, api.Act{Do: api.Step}, api.Act{Do: api.Lift})
	do(t, w, api.Act{Do: api.Flip, N: 1, Id: 34, Host: 1})
}

// P18.2: ticks pass.
func TestWait(t *testing.T) {
	w := newWorld(t, 200, 4, 2, 1)
	for _, n := range []int{-1, 1001, 1 << 62, -1 << 63} {
		wantErr(t, w, api.Act{Do: api.Wait, N: n}, api.ErrArg)
	}
	for _, n := range []int{0, -1, api.MaxRounds + 1, 1 << 62, -1 << 63} {
		wantErr(t, w, api.Act{Do: api.Calm, N: n}, api.ErrArg)
	}
	do(t, w, api.Act{Do: api.Wait}, api.Act{Do: api.Wait, N: 1000}, api.Act{Do: api.Calm, N: 1}, api.Act{Do: api.Calm, N: api.MaxRounds})
	if w.Now() != 3001 {
		t.Fatal("the tick", w.Now())
	}
	// A Step is at the world's tick: the host takes none below it any more.
	do(t, w, api.Act{Do: api.Wait, N: 9}, api.Act{Do: api.Step})
	if w.Host(0).Step(3009, 0) != api.ErrTick || w.Host(0).Step(3010, 0) != api.OK {
		t.Fatal("another tick")
	}
}

// P18.2: a calm has nothing under way, and brings all that is sent.
func TestCalm(t *testing.T) {
	w, id := met(t, 200, 64, 2, 5)
	do(t, w, api.Act{Do: api.Push, Id: 1, Msg: api.Msg{Data: []byte("x")}}, api.Act{Do: api.Step}, api.Act{Do: api.Lift})
	now := w.Now()
	do(t, w, api.Act{Do: api.Calm, N: 1})
	if _, to, _ := w.Air(0); to != -1 || w.Now() != now+1 {
		t.Fatal("it is under way", w.Now())
	}
	wantErr(t, w, api.Act{Do: api.Take, Host: 1, Id: id}, api.ErrEmpty) // it was lost
	do(t, w, api.Act{Do: api.Calm, N: 100}, api.Act{Do: api.Take, Host: 1, Id: id})
	// What goes there and back comes in one round.
	do(t, w, api.Act{Do: api.Push, Id: 1, Msg: api.Msg{Data: make([]byte, 3000)}}, api.Act{Do: api.Calm, N: 1}, api.Act{Do: api.Take, Host: 1, Id: id})
	for k := range 2 {
		if _, _, frames := w.Host(k).Used(); frames != 0 {
			t.Fatal("frames are left", k, frames)
		}
	}
}

// P18.2: what has an error changes nothing: draws too.
func TestErrorsChangeNothing(t *testing.T) {
	tags := func(bad ...api.Act) (uint32, uint32) {
		w := newWorld(t, 200, 16, 2, 8)
		do(t, w, api.Act{Do: api.Bind, Host: 1, N: 5}, api.Act{Do: api.Listen, Host: 1, Id: 1}, api.Act{Do: api.Bind, N: 9})
		for _, a := range bad {
			if _, e := w.Do(a); e == api.OK {
				t.Fatal("no error", a)
			}
		}
		do(t, w, api.Act{Do: api.Connect, Id: 1, N: 5}, api.Act{Do: api.Calm, N: 3})
		own, peer, e := w.Host(0).Tags(1)
		if e != api.OK || own == 0 || peer == 0 {
			t.Fatal("tags", own, peer, e)
		}
		return own, peer
	}
	own, peer := tags()
	x, y := tags(
		api.Act{Do: api.Connect, Id: 1, N: 0}, api.Act{Do: api.Connect, Id: 2, N: 1}, api.Act{Do: api.Connect, Host: 1, Id: 1, N: 1},
		api.Act{Do: api.Lift}, api.Act{Do: api.Step, Host: 2}, api.Act{Do: api.Calm}, api.Act{Do: api.Wait, N: -1}, api.Act{Do: api.Forge},
	)
	if x != own || y != peer {
		t.Fatal("other draws")
	}
}

// P3: what is handed in, or out, is not what is kept.
func TestMemory(t *testing.T) {
	w, id := met(t, 500, 16, 2, 3)
	data := []byte("message, spare")
	do(t, w, api.Act{Do: api.Push, Id: 1, Msg: api.Msg{Data: data[:7]}})
	if string(data) != "message, spare" {
		t.Fatal("it was changed")
	}
	clear(data)
	do(t, w, api.Act{Do: api.Step}, api.Act{Do: api.Lift})
	_, _, b := w.Air(0)
	_, _, again := w.Air(0)
	clear(b)
	if _, _, c := w.Air(0); !bytes.Equal(c, again) {
		t.Fatal("a frame was handed out as it is kept")
	}
	do(t, w, api.Act{Do: api.Land}, api.Act{Do: api.Step, Host: 1}, api.Act{Do: api.Take, Host: 1, Id: id})
	for range 2 {
		l := w.Trace()
		if string(l[2].Msg.Data) != "message" || string(l[3].Msg.Data) != "message" {
			t.Fatalf("a trace: %q, %q", l[2].Msg.Data, l[3].Msg.Data)
		}
		clear(l[2].Msg.Data)
		clear(l[3].Msg.Data)
		l[0].Own++
	}
	f := append(asking(t, 0), 1, 2, 3)
	do(t, w, api.Act{Do: api.Forge, Bytes: f[:42]})
	clear(f)
	bad := w.Host(0).Count().Bad
	do(t, w, api.Act{Do: api.Step})
	if w.Host(0).Count().Bad != bad {
		t.Fatal("a frame was kept as it was handed in")
	}
}

// P18.3: the same acts tell the same; another seed tells other tags.
func TestSame(t *testing.T) {
	run := func(seed uint64) string {
		w, id := met(t, 300, 8, 3, seed)
		below := numbers(4)
		s := ""
		for range 1500 {
			n, e := w.Do(someAct(below, [2]int{1, id}))
			s += fmt.Sprint(n, e, " ")
		}
		for n := range api.MaxAir {
			line, to, b := w.Air(n)
			s += fmt.Sprint(line, to, b)
		}
		return s + fmt.Sprint(w.Trace(), w.Now(), w.Host(0).Count(), w.Host(1).Count())
	}
	if run(1) != run(1) {
		t.Fatal("told otherwise")
	}
	if run(1) == run(2) {
		t.Fatal("a seed plays no part")
	}
}

// someAct is any act of a line, or of a linked socket.
func someAct(below func(int) int, ids [2]int) api.Act {
	k := below(2)
	a := api.Act{Host: k, Id: ids[k]}
	switch x := below(100); {
	case x < 15:
		size := 1 + below(40)
		if below(3) == 0 {
			size = 1 + below(api.MaxMsg)
		}
		a.Do = api.Push
		a.Msg = api.Msg{Stream: uint16(below(4)), PPID: uint32(below(3)), Free: below(4) == 0, Data: someBytes(below, size)}
	case x < 25:
		a.Do = api.Take
	case x < 45:
		a.Do = api.Step
	case x < 65:
		a.Do, a.N = api.Lift, below(2)
	case x < 80:
		a.Do, a.N = api.Land, below(6)
	case x < 90:
		a.Do, a.N = api.Drop, below(4)
	case x < 93:
		a.Do, a.N, a.Id, a.Host = api.Flip, below(4), 34+below(200), 1+below(255)
	default:
		a.Do, a.N = api.Wait, below(6)
	}
	return a
}

// mayLeave: may a frame be sent by a host's card of Mtu bytes? (P18.4)
func mayLeave(mtu, k, i int, b []byte) error {
	mac := uint64(0x020000000000 | i<<8 | k + 1)
	x, e := ether.Take(b)
	if e != api.OK || x.From != mac {
		return fmt.Errorf("a frame from %x: error %d", x.From, e)
	}
	if x.Kind == api.KindArp {
		if _, e := ether.TakeArp(x.Body); e != api.OK {
			return fmt.Errorf("ARP: error %d", e)
		}
		return nil
	}
	p, e := ip.Take(x.Body)
	if e != api.OK || x.Kind != api.KindIP || len(x.Body) > mtu {
		return fmt.Errorf("a packet of %d bytes: error %d", len(x.Body), e)
	}
	if p.Proto == api.ProtoSctp && !sums.Stamped(p.Body) {
		return fmt.Errorf("a packet of SCTP with another sum")
	}
	return nil
}

// P18.4: each frame that a host sends may be.
func TestFramesMayBe(t *testing.T) {
	seen := 0
	for seed := range uint64(30) {
		below := numbers(seed)
		mtu := api.MinMtu + below(300)
		w, id := met(t, mtu, 1+below(16), 1+below(4), seed)
		for range 1500 {
			a := someAct(below, [2]int{1, id})
			if a.Do == api.Lift {
				for _, k := range []int{0, 1} {
					b, e := w.Host(k).Out(a.N)
					if e != api.OK {
						continue
					}
					if err := mayLeave(mtu, k, a.N, b); err != nil {
						t.Fatal(seed, err)
					}
					if w.Host(1-k).Frame(a.N, b) == api.OK {
						seen++
					}
				}
				continue
			}
			w.Do(a)
		}
	}
	if seen < 3000 {
		t.Fatal("too few:", seen)
	}
}

// P18.5: one that listens and one that connects meet, whatever Mtu, Ring and Streams are.
func TestMeet(t *testing.T) {
	for _, mtu := range []int{api.MinMtu, 500, api.MaxBody} {
		for _, ring := range []int{1, 2, 5, api.MaxRing} {
			for _, streams := range []int{1, api.MaxStreams} {
				for listener := range 2 {
					w := newWorld(t, mtu, ring, streams, uint64(mtu+ring))
					do(t, w,
						api.Act{Do: api.Bind, Host: listener, N: 5}, api.Act{Do: api.Listen, Host: listener, Id: 1},
						api.Act{Do: api.Bind, Host: 1 - listener, N: 9}, api.Act{Do: api.Connect, Host: 1 - listener, Id: 1, N: 5}, api.Act{Do: api.Calm, N: 3},
					)
					n := do(t, w, api.Act{Do: api.Accept, Host: listener, Id: 1})
					wantState(t, w.Host(listener), n, api.Established)
					wantState(t, w.Host(1-listener), 1, api.Established)
				}
			}
		}
	}
}

func wantState(t *testing.T, h *host.Host, id int, want api.State) {
	t.Helper()
	if s, e := h.State(id); s != want || e != api.OK {
		t.Fatalf("state %d, error %d; want %d", s, e, want)
	}
}

// P1: no act panics, whatever it is.
func TestAnyAct(t *testing.T) {
	for seed := range uint64(20) {
		below := numbers(seed)
		w := newWorld(t, 200, 1+below(8), 1+below(3), seed)
		for range 2000 {
			a := api.Act{Do: api.Deed(below(20)), Host: below(4) - 1, Id: below(11) - 1, N: below(6) - 1}
			a.Msg = api.Msg{Stream: uint16(below(3)), Data: someBytes(below, below(60))}
			a.Bytes = someBytes(below, below(80))
			if below(10) == 0 {
				a.N, a.Id = 1<<62-below(1<<62)*below(3), -1<<63
			}
			n, e := w.Do(a)
			if e != api.OK && n != 0 {
				t.Fatal("a number beside an error")
			}
		}
	}
}
