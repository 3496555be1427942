package world_test

import (
	"fmt"
	"strings"
	"testing"

	"trunkline/api"
	"trunkline/chunk"
	"trunkline/ether"
	"trunkline/ip"
	"trunkline/judge"
	"trunkline/world"
)

// chunksOf are the chunks of a frame; none, if it has no packet of SCTP.
func chunksOf(b []byte) []api.Chunk {
	x, _ := ether.Take(b)
	p, e := ip.Take(x.Body)
	if e != api.OK || p.Proto != api.ProtoSctp {
		return nil
	}
	_, l, _ := chunk.Take(p.Body)
	return l
}

// names are those of a frame's chunks.
func names(b []byte) string {
	var l []string
	for _, c := range chunksOf(b) {
		l = append(l, chunk.Name(c.Type))
	}
	return strings.Join(l, " ")
}

// has: has a frame a chunk of a type?
func has(b []byte, kind uint8) bool {
	for _, c := range chunksOf(b) {
		if c.Type == kind {
			return true
		}
	}
	return false
}

// flow lets ticks pass in which each frame that is sent comes, unless lost says that it does not. It is asked for the line, the host to which it goes, and the bytes.
func flow(t *testing.T, w *world.World, ticks int, lost func(line, to int, b []byte) bool) {
	t.Helper()
	for range ticks {
		do(t, w, api.Act{Do: api.Wait, N: 1})
		for range 40 {
			do(t, w, api.Act{Do: api.Step}, api.Act{Do: api.Step, Host: 1})
			came := 0
			for _, card := range [][2]int{{0, 0}, {0, 1}, {1, 0}, {1, 1}} {
				for {
					if _, e := w.Do(api.Act{Do: api.Lift, Host: card[0], N: card[1]}); e != api.OK {
						break
					}
					came++
					line, to, b := w.Air(0)
					if !lost(line, to, b) {
						do(t, w, api.Act{Do: api.Land})
					}
					do(t, w, api.Act{Do: api.Drop})
				}
			}
			if came == 0 {
				break
			}
		}
	}
}

func none(int, int, []byte) bool { return false }

// wantTold takes all messages of a socket, by their lengths.
func wantTold(t *testing.T, w *world.World, k, id int, want ...int) {
	t.Helper()
	before := len(w.Trace())
	for {
		if _, e := w.Do(api.Act{Do: api.Take, Host: k, Id: id}); e != api.OK {
			break
		}
	}
	var got []int
	for _, m := range w.Trace()[before:] {
		got = append(got, len(m.Msg.Data))
	}
	if fmt.Sprint(got) != fmt.Sprint(want) {
		t.Fatalf("told messages of %v bytes; want %v", got, want)
	}
	if n, e := judge.Judge(w.Trace()); e != api.OK {
		t.Fatal("a trace that may not be:", n, e)
	}
}

// wantHeard takes all notices of a socket.
func wantHeard(t *testing.T, w *world.World, k, id int, want ...api.Notice) {
	t.Helper()
	before := len(w.Trace())
	for {
		if _, e := w.Do(api.Act{Do: api.Hear, Host: k, Id: id}); e != api.OK {
			break
		}
	}
	var got []api.Notice
	for _, m := range w.Trace()[before:] {
		got = append(got, m.Notice)
	}
	if fmt.Sprint(got) != fmt.Sprint(want) {
		t.Fatalf("heard %v; want %v", got, want)
	}
}

func push(id, size int) api.Act {
	return api.Act{Do: api.Push, Id: id, Msg: api.Msg{Data: make([]byte, size)}}
}

// Example 1: Init, InitAck with a cookie, CookieEcho, CookieAck: both sides are told Came.
func TestHandshake(t *testing.T) {
	w := newWorld(t, 200, 16, 2, 1)
	do(t, w,
		api.Act{Do: api.Bind, Host: 1, N: 5}, api.Act{Do: api.Listen, Host: 1, Id: 1},
		api.Act{Do: api.Bind, N: 9}, api.Act{Do: api.Connect, Id: 1, N: 5},
	)
	var seen []string
	flow(t, w, 1, func(line, to int, b []byte) bool {
		if n := names(b); n != "" {
			seen = append(seen, fmt.Sprint(to, " ", n))
		}
		return false
	})
	if got := strings.Join(seen, ", "); got != "1 INIT, 0 INIT ACK, 1 COOKIE ECHO, 0 COOKIE ACK" {
		t.Fatal("on the lines:", got)
	}
	id := do(t, w, api.Act{Do: api.Accept, Host: 1, Id: 1})
	wantHeard(t, w, 0, 1, api.Came)
	wantHeard(t, w, 1, id, api.Came)
}

// Example 2: of three pieces the second one is lost: the other two are held, and told as a gap; it comes again.
func TestLostPiece(t *testing.T) {
	w, id := met(t, 200, 16, 2, 1)
	do(t, w, push(1, 400))
	pieces, gap := 0, [2]uint16{}
	flow(t, w, 1, func(line, to int, b []byte) bool {
		for _, c := range chunksOf(b) {
			if c.Type == api.Data {
				pieces++
			}
			if c.Type == api.Sack && len(c.Blocks) == 1 {
				gap = c.Blocks[0]
			}
		}
		return has(b, api.Data) && pieces == 2
	})
	if pieces != 3 || gap != [2]uint16{2, 2} {
		t.Fatal("pieces:", pieces, "; the gap:", gap)
	}
	wantTold(t, w, 1, id)
	flow(t, w, 40, none)
	wantTold(t, w, 1, id, 400)
}

// Example 3: of two messages the first one is lost: the second one waits, unless it is free of order.
func TestWrongOrder(t *testing.T) {
	for _, free := range []bool{false, true} {
		w, id := met(t, 200, 16, 2, 1)
		second := push(1, 120)
		second.Msg.Free = free
		do(t, w, push(1, 110), second)
		first := true
		flow(t, w, 1, func(line, to int, b []byte) bool {
			lost := first && has(b, api.Data)
			first = first && !lost
			return lost
		})
		if free {
			wantTold(t, w, 1, id, 120)
			flow(t, w, 40, none)
			wantTold(t, w, 1, id, 110)
			continue
		}
		wantTold(t, w, 1, id)
		flow(t, w, 40, none)
		wantTold(t, w, 1, id, 110, 120)
	}
}

// Example 4: line 0 is cut: all goes by line 1, till line 0 answers a heartbeat.
func TestCutLine(t *testing.T) {
	w, id := met(t, 200, 16, 2, 1)
	do(t, w, push(1, 100))
	var sent [api.Paths]int
	cut := true
	lost := func(line, to int, b []byte) bool {
		if to == 1 && has(b, api.Data) {
			sent[line]++
		}
		return cut && line == 0
	}
	flow(t, w, 600, lost)
	wantTold(t, w, 1, id, 100)
	if sent[0] < 2 || sent[0] > 4 || sent[1] != 1 { // heartbeats that are not answered count, too
		t.Fatal("pieces on the lines:", sent)
	}
	sent = [api.Paths]int{}
	do(t, w, push(1, 100))
	flow(t, w, 10, lost)
	wantTold(t, w, 1, id, 100)
	if sent != [api.Paths]int{0, 1} {
		t.Fatal("line 0 is not down:", sent)
	}
	cut = false
	flow(t, w, 1300, lost)
	sent = [api.Paths]int{}
	do(t, w, push(1, 100))
	flow(t, w, 10, lost)
	wantTold(t, w, 1, id, 100)
	if sent != [api.Paths]int{1, 0} {
		t.Fatal("line 0 is not up:", sent)
	}
	wantHeard(t, w, 0, 1)
	wantHeard(t, w, 1, id)
}

// forgedTo is a frame with chunks to a host from the other one, on line 0.
func forgedTo(t *testing.T, k int, head api.Head, chunks ...api.Chunk) []byte {
	t.Helper()
	b, e := chunk.Put(head, chunks)
	if e != api.OK {
		t.Fatal(e)
	}
	p, _ := ip.Put(api.Packet{Src: uint32(10<<24 | 2 - k), Dst: uint32(10<<24 | k + 1), Proto: api.ProtoSctp, TTL: api.TTL, Dont: true, Body: b})
	f, e := ether.Put(api.Ether{To: uint64(0x020000000001 + k), From: uint64(0x020000000002 - k), Kind: api.KindIP, Body: p})
	if e != api.OK {
		t.Fatal(e)
	}
	return f
}

// forged is one to host 1.
func forged(t *testing.T, head api.Head, chunks ...api.Chunk) []byte {
	t.Helper()
	return forgedTo(t, 1, head, chunks...)
}

// Example 5, T3: a thousand Inits come from nobody: each is answered, there is no socket more.
func TestThousandInits(t *testing.T) {
	w, id := met(t, 200, 16, 2, 1)
	before, _, _ := w.Host(1).Used()
	for tag := range uint32(1000) {
		f := forged(t, api.Head{From: uint16(tag + 1), To: 5}, api.Chunk{Type: api.Init, Tag: tag + 1, Outs: 1, Ins: 1})
		do(t, w, api.Act{Do: api.Forge, Host: 1, Bytes: f}, api.Act{Do: api.Step, Host: 1}, api.Act{Do: api.Lift, Host: 1})
		if _, _, b := w.Air(0); names(b) != "INIT ACK" {
			t.Fatal("an answer:", names(b))
		}
		do(t, w, api.Act{Do: api.Drop})
		wantErr(t, w, api.Act{Do: api.Lift, Host: 1}, api.ErrEmpty)
	}
	if socks, held, frames := w.Host(1).Used(); socks != before || held+frames != 0 || w.Host(1).Count() != (api.Counts{}) {
		t.Fatal("used:", socks, held, frames)
	}
	wantErr(t, w, api.Act{Do: api.Accept, Host: 1, Id: 1}, api.ErrEmpty)
	do(t, w, push(1, 300))
	flow(t, w, 5, none)
	wantTold(t, w, 1, id, 300)
}

// T3: frames without a right tag change nothing of what sockets tell.
func TestStrangers(t *testing.T) {
	w, id := met(t, 200, 64, 2, 1)
	below := numbers(5)
	for range 2000 {
		c := api.Chunk{Type: uint8(below(16))}
		switch c.Type {
		case api.Data:
			c.TSN, c.Flags, c.Data = uint32(below(1<<32)), 3, []byte("stranger")
		case api.Init:
			continue
		case api.CookieEcho:
			c.Data = someBytes(below, api.CookieLen)
		}
		f := forged(t, api.Head{From: 9, To: 5, Tag: uint32(below(1 << 32))}, c)
		do(t, w, api.Act{Do: api.Forge, Host: 1, Bytes: f}, api.Act{Do: api.Step, Host: 1})
		wantErr(t, w, api.Act{Do: api.Take, Host: 1, Id: id}, api.ErrEmpty)
		wantErr(t, w, api.Act{Do: api.Hear, Host: 1, Id: id}, api.ErrEmpty)
	}
	wantState(t, w.Host(1), id, api.Established)
	do(t, w, push(1, 300))
	flow(t, w, 100, none)
	wantTold(t, w, 1, id, 300)
}

// Example 6: an old cookie is stale; one with another bit is none.
func TestOldCookie(t *testing.T) {
	w := newWorld(t, 200, 16, 2, 1)
	do(t, w,
		api.Act{Do: api.Bind, Host: 1, N: 5}, api.Act{Do: api.Listen, Host: 1, Id: 1},
		api.Act{Do: api.Bind, N: 9}, api.Act{Do: api.Connect, Id: 1, N: 5},
	)
	var kept []byte
	flow(t, w, 1, func(line, to int, b []byte) bool {
		if has(b, api.CookieEcho) {
			kept = b
		}
		return has(b, api.CookieEcho)
	})
	stray := func() int { return w.Host(1).Count().Stray }
	l := chunksOf(kept)
	x, _ := ether.Take(kept)
	p, _ := ip.Take(x.Body)
	head, _, _ := chunk.Take(p.Body)
	l[0].Data[20] ^= 1
	do(t, w, api.Act{Do: api.Forge, Host: 1, Bytes: forged(t, head, l...)}, api.Act{Do: api.Step, Host: 1})
	if stray() != 1 {
		t.Fatal("one with another bit was taken")
	}
	do(t, w, api.Act{Do: api.Wait, N: api.MaxLife + 1}, api.Act{Do: api.Forge, Host: 1, Bytes: kept}, api.Act{Do: api.Step, Host: 1})
	if stray() != 2 {
		t.Fatal("an old one was taken")
	}
	if socks, _, _ := w.Host(1).Used(); socks != 1 {
		t.Fatal("sockets:", socks)
	}
}

// The words: each host has a secret of its own, and each seed: a cookie of the one is none of the other one.
func TestSecrets(t *testing.T) {
	listening := func(seed uint64) *world.World {
		w := newWorld(t, 200, 16, 2, seed)
		for k := range 2 {
			do(t, w, api.Act{Do: api.Bind, Host: k, N: 5}, api.Act{Do: api.Listen, Host: k, Id: 1})
			ask, _ := ether.PutArp(api.Arp{Op: 1, FromMac: 7, FromIP: uint32(10<<24 | 2 - k), ToIP: uint32(10<<24 | k + 1)})
			f, _ := ether.Put(api.Ether{To: api.Everybody, From: 7, Kind: api.KindArp, Body: ask})
			do(t, w, api.Act{Do: api.Forge, Host: k, Bytes: f}, api.Act{Do: api.Step, Host: k}, api.Act{Do: api.Lift, Host: k}, api.Act{Do: api.Drop})
		}
		return w
	}
	w := listening(1)
	do(t, w, api.Act{Do: api.Forge, Bytes: forgedTo(t, 0, api.Head{From: 9, To: 5}, api.Chunk{Type: api.Init, Tag: 3, Outs: 1, Ins: 1})}, api.Act{Do: api.Step}, api.Act{Do: api.Lift})
	_, _, b := w.Air(0)
	ack := chunksOf(b)[0]
	head, echo := api.Head{From: 9, To: 5, Tag: ack.Tag}, api.Chunk{Type: api.CookieEcho, Data: ack.Params[0].Value}
	come := func(w *world.World, k, want int) {
		t.Helper()
		do(t, w, api.Act{Do: api.Forge, Host: k, Bytes: forgedTo(t, k, head, echo)}, api.Act{Do: api.Step, Host: k})
		if socks, _, _ := w.Host(k).Used(); socks != want {
			t.Fatal("sockets of host", k, ":", socks)
		}
	}
	come(w, 1, 1)
	come(listening(2), 0, 1)
	come(listening(1), 0, 2)
	come(w, 0, 2)
}

// Example 7: a frame of which a byte was turned is counted as bad, and comes again.
func TestTurnedFrame(t *testing.T) {
	w, id := met(t, 200, 16, 2, 1)
	do(t, w, push(1, 100), api.Act{Do: api.Step}, api.Act{Do: api.Lift}, api.Act{Do: api.Flip, Id: 80, Host: 4}, api.Act{Do: api.Land}, api.Act{Do: api.Drop}, api.Act{Do: api.Step, Host: 1})
	if c := w.Host(1).Count(); c.Bad != 1 {
		t.Fatal("counts", c)
	}
	wantTold(t, w, 1, id)
	flow(t, w, 40, none)
	wantTold(t, w, 1, id, 100)
}

// Example 8: nobody takes: the room shrinks to none, and one piece asks now and then; when it is taken, all goes on.
func TestNoRoom(t *testing.T) {
	w, id := met(t, 1500, 64, 2, 1)
	var want []int
	for range 6 {
		for range 2 {
			if _, e := w.Do(push(1, api.MaxMsg)); e == api.OK {
				want = append(want, api.MaxMsg)
			}
		}
		flow(t, w, 50, none)
	}
	pieces, room := 0, uint32(1)
	flow(t, w, 1500, func(line, to int, b []byte) bool {
		for _, c := range chunksOf(b) {
			switch c.Type {
			case api.Data:
				pieces++
			case api.Sack:
				room = c.Room
			}
		}
		return false
	})
	if pieces == 0 || pieces > 60 || room >= 1452 {
		t.Fatal("pieces:", pieces, "; room:", room)
	}
	wantTold(t, w, 1, id, want[:len(want)-2]...)
	flow(t, w, 1500, none)
	wantTold(t, w, 1, id, want[len(want)-2:]...)
}

// Example 9: a shutdown with two messages under way: both are told, and both sides are told Done, whether the last packet is lost or not.
func TestShutdown(t *testing.T) {
	for _, lose := range []bool{false, true} {
		w, id := met(t, 200, 16, 2, 1)
		do(t, w, push(1, 300), push(1, 200), api.Act{Do: api.Step}, api.Act{Do: api.Shut, Id: 1})
		var seen []string
		flow(t, w, 4, func(line, to int, b []byte) bool {
			for _, c := range chunksOf(b) {
				if c.Type == api.Shutdown || c.Type == api.ShutdownAck || c.Type == api.ShutdownComplete {
					seen = append(seen, chunk.Name(c.Type))
				}
			}
			return lose && has(b, api.ShutdownComplete)
		})
		if got := strings.Join(seen, ", "); got != "SHUTDOWN, SHUTDOWN ACK, SHUTDOWN COMPLETE" {
			t.Fatal("on the lines:", got)
		}
		wantTold(t, w, 1, id, 300, 200)
		wantHeard(t, w, 0, 1, api.Done)
		if lose {
			wantHeard(t, w, 1, id)
			do(t, w, api.Act{Do: api.Free, Id: 1}) // nothing is there any more
			flow(t, w, 100, none)
		}
		wantHeard(t, w, 1, id, api.Done)
		wantState(t, w.Host(1), id, api.Closed)
	}
}

// Example 10: both lines are cut: after nine times each side is told Lost.
func TestCutLines(t *testing.T) {
	w, id := met(t, 200, 16, 2, 1)
	do(t, w, push(1, 300))
	flow(t, w, 5000, func(int, int, []byte) bool { return true })
	wantHeard(t, w, 0, 1, api.Lost)
	wantHeard(t, w, 1, id, api.Lost)
	wantState(t, w.Host(0), 1, api.Closed)
	wantState(t, w.Host(1), id, api.Closed)
	_, _, frames := w.Host(0).Used()
	if l := w.Trace(); frames != 0 || len(l) != 5 {
		t.Fatal("a trace:", l)
	}
}

// T1: one who begins anew: the old association ends with Again, and nothing of it is told to the new one.
func TestBeginsAnew(t *testing.T) {
	w, id := met(t, 200, 16, 2, 1)
	do(t, w, push(1, 100), api.Act{Do: api.Step}, api.Act{Do: api.Lift}) // it stays under way
	do(t, w, api.Act{Do: api.Free, Id: 1})
	wantErr(t, w, api.Act{Do: api.Lift, N: 1}, api.ErrEmpty)
	do(t, w, api.Act{Do: api.Lift}, api.Act{Do: api.Drop, N: 1}) // the Abort is lost
	do(t, w, api.Act{Do: api.Bind, N: 9}, api.Act{Do: api.Connect, Id: 1, N: 5})
	_, _, old := w.Air(0)
	do(t, w, api.Act{Do: api.Calm, N: 3})
	next := do(t, w, api.Act{Do: api.Accept, Host: 1, Id: 1})
	wantHeard(t, w, 1, id, api.Again)
	wantHeard(t, w, 1, next, api.Came)
	wantHeard(t, w, 0, 1, api.Came)
	do(t, w, api.Act{Do: api.Forge, Host: 1, Bytes: old}, push(1, 200), api.Act{Do: api.Calm, N: 3})
	wantTold(t, w, 1, next, 200)
	wantTold(t, w, 1, id)
}

// T1: a cookie that comes late makes nothing once more, nor do old pieces, though the sockets are closed.
func TestReplayed(t *testing.T) {
	w := newWorld(t, 200, 16, 2, 1)
	do(t, w,
		api.Act{Do: api.Bind, Host: 1, N: 5}, api.Act{Do: api.Listen, Host: 1, Id: 1},
		api.Act{Do: api.Bind, N: 9}, api.Act{Do: api.Connect, Id: 1, N: 5},
	)
	var kept [][]byte
	keep := func(line, to int, b []byte) bool {
		if to == 1 && (has(b, api.CookieEcho) || has(b, api.Data)) {
			kept = append(kept, b)
		}
		return false
	}
	flow(t, w, 2, keep)
	id := do(t, w, api.Act{Do: api.Accept, Host: 1, Id: 1})
	do(t, w, push(1, 100))
	flow(t, w, 2, keep)
	wantTold(t, w, 1, id, 100)
	replay := func() {
		t.Helper()
		for _, b := range kept {
			do(t, w, api.Act{Do: api.Forge, Host: 1, Bytes: b}, api.Act{Do: api.Step, Host: 1})
		}
		wantErr(t, w, api.Act{Do: api.Accept, Host: 1, Id: 1}, api.ErrEmpty)
	}
	replay()
	wantTold(t, w, 1, id)
	do(t, w, api.Act{Do: api.Kill, Host: 1, Id: id})
	replay()
	wantTold(t, w, 1, id)
	do(t, w, api.Act{Do: api.Free, Host: 1, Id: id})
	for range 4 {
		replay()
		do(t, w, api.Act{Do: api.Wait, N: 200})
	}
	if socks, _, _ := w.Host(1).Used(); len(kept) != 2 || socks != 1 {
		t.Fatal("kept", len(kept), "; sockets", socks)
	}
}
