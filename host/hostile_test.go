package host_test

import (
	"bytes"
	"fmt"
	"testing"

	"trunkline/api"
	"trunkline/chunk"
	"trunkline/ether"
	"trunkline/host"
	"trunkline/ip"
)

// view is what of a host an Init may not change.
func view(t *testing.T, h *host.Host) string {
	t.Helper()
	socks, held, _ := h.Used()
	s := fmt.Sprint(socks, held)
	for id := range api.MaxSocks + 2 {
		state, e := h.State(id)
		own, peer, f := h.Tags(id)
		s += fmt.Sprint(" ", state, e, own, peer, f)
	}
	return s
}

// P17.7: Inits and cookies that are none leave nothing but counts, neighbours and one answer.
func TestStrangersLeaveNothing(t *testing.T) {
	h, a, id := joined(t)
	before := view(t, h)
	below := numbers(3)
	bad, _ := chunk.Put(api.Head{From: 9, To: 5, Tag: 3}, []api.Chunk{{Type: api.CookieEcho, Data: make([]byte, api.CookieLen)}})
	for range 1000 {
		i := below(2)
		if below(2) == 0 {
			feed(t, h, 2, i, chunksFrame(t, i, api.Head{From: uint16(1 + below(20)), To: uint16(4 + below(3))}, initOf(uint32(1+below(99)))))
			if l := sents(t, h, i); len(l) != 1 {
				t.Fatal("answers:", len(l))
			}
		} else {
			feed(t, h, 2, i, sctpFrame(t, i, bad))
			wantSent(t, h, i)
		}
		wantSent(t, h, 1-i)
	}
	if after := view(t, h); after != before {
		t.Fatalf("%s\nbecame %s", before, after)
	}
	wantNotices(t, h, id)
	wantErr(t, "Send", a.Send(api.Msg{Data: []byte("x")}), api.OK)
	talk(t, h, a, 3)
	wantTold(t, h, id, "x")
}

// someFrame is a frame of any kind, to a card.
func someFrame(below func(int) int, c api.Config, i int) []byte {
	x := api.Ether{To: c.Macs[i], From: uint64(3 + below(9)), Kind: api.KindIP}
	switch below(12) {
	case 0:
		return someBytes(below, 1+below(100))
	case 1:
		x.To = uint64(below(4))
	case 2, 3:
		x.Kind = api.KindArp
		x.Body, _ = ether.PutArp(api.Arp{Op: 1 + below(2), FromMac: uint64(below(9)), FromIP: uint32(5 + below(30)), ToIP: uint32(10 + 10*below(2))})
	default:
		p := api.Packet{Src: c.Peers[i], Dst: c.Addrs[i], Proto: api.ProtoSctp, TTL: 5, ID: uint16(below(6))}
		if below(4) == 0 {
			p.Src = uint32(5 + below(30))
		}
		switch below(6) {
		case 0:
			p.Proto, p.Body = api.ProtoIcmp, ip.PutIcmp(api.Icmp{Type: uint8(below(10)), Body: someBytes(below, below(1400))})
		case 1:
			p.Proto, p.Body = uint8(below(256)), someBytes(below, 8*below(20))
			p.Off, p.More = 8*below(600), below(2) == 0
		default:
			p.Body = someSctp(below)
		}
		x.Body, _ = ip.Put(p)
	}
	b, e := ether.Put(x)
	if e != api.OK {
		return []byte{1}
	}
	if below(20) == 0 {
		b[below(len(b))]++
	}
	return b
}

// someSctp is a packet of SCTP of few ports, with any chunks.
func someSctp(below func(int) int) []byte {
	var chunks []api.Chunk
	for range 1 + below(3) {
		c := api.Chunk{Type: uint8(below(16)), Flags: uint8(below(8))}
		switch c.Type {
		case api.Data:
			c.TSN, c.Stream, c.SSN, c.Data = uint32(below(40)), uint16(below(3)), uint16(below(5)), someBytes(below, 1+below(100))
		case api.Init, api.InitAck:
			c = initOf(uint32(below(4)))
			c.Type = []uint8{api.Init, api.InitAck}[below(2)]
			c.Params = []api.Param{{Kind: 7, Value: someBytes(below, below(90))}}
		case api.Sack:
			c.TSN, c.Room = uint32(below(40)), uint32(below(20000))
		case api.Shutdown:
			c.TSN = uint32(below(40))
		case api.CookieEcho, 12, 13, 15:
			c.Data = someBytes(below, below(90))
		case api.Heartbeat, api.HeartbeatAck, api.Error:
			c.Params = []api.Param{{Kind: uint16(below(9)), Value: someBytes(below, below(150))}}
		}
		chunks = append(chunks, c)
	}
	b, e := chunk.Put(api.Head{From: uint16(below(4)), To: uint16(below(4)), Tag: uint32(below(4))}, chunks)
	if e != api.OK {
		return []byte{1}
	}
	return b
}

// someCall does any call of a socket.
func someCall(below func(int) int, h *host.Host) {
	id := below(api.MaxSocks + 2)
	switch below(14) {
	case 0, 1:
		h.Bind(uint16(below(4)))
	case 2, 3:
		h.Listen(id)
	case 4:
		h.Connect(id, uint16(below(4)), uint64(below(3))) // tags of 1 and 3, which frames may have
	case 5:
		h.Accept(id)
	case 6, 7:
		h.Send(id, api.Msg{Stream: uint16(below(3)), Data: someBytes(below, below(500))})
	case 8:
		h.Recv(id)
	case 9:
		h.Notice(id)
	case 10:
		h.Shutdown(id)
	case 11:
		if below(4) == 0 {
			h.Abort(id)
		}
	case 12:
		if below(4) == 0 {
			h.Close(id)
		}
	}
}

func wantBounds(t *testing.T, h *host.Host, c api.Config) {
	t.Helper()
	socks, held, frames := h.Used()
	if socks < 0 || socks > api.MaxSocks || held > api.MaxReasm || frames > 4*c.Ring {
		t.Fatal("used:", socks, held, frames)
	}
	for i := range api.Cards {
		near := h.Near(i)
		if len(near) > api.MaxArp {
			t.Fatal("neighbours:", len(near))
		}
		for _, n := range near {
			if n.Pending > api.MaxPending {
				t.Fatal("what waits:", n.Pending)
			}
		}
	}
}

// P1, P17.8, P17.9: whatever frames come and whatever is called, all stays within its limits, and each frame that goes out may be.
func TestHostile(t *testing.T) {
	left := 0
	for seed := range uint64(40) {
		below := numbers(seed)
		c := config()
		c.Mtu, c.Ring = api.MinMtu+below(100), 1+below(api.MaxRing)
		h := newHost(t, c)
		now := 0
		for range 1500 {
			switch below(8) {
			case 0, 1, 2, 3:
				i := below(2)
				b := someFrame(below, c, i)
				kept := bytes.Clone(b)
				h.Frame(i, b)
				if !bytes.Equal(b, kept) {
					t.Fatal("a frame was changed")
				}
			case 4:
				now += below(4) * below(20)
				wantErr(t, "Step", h.Step(now, uint64(below(5))), api.OK)
			case 5:
				i := below(2)
				for _, b := range outs(t, h, i) {
					if err := mayLeave(c, i, b); err != nil {
						t.Fatal(seed, err)
					}
					left++
				}
			default:
				someCall(below, h)
			}
			wantBounds(t, h, c)
		}
		n := h.Count()
		if n.Alien < 0 || n.Bad < 0 || n.Dropped < 0 || n.Stray < 0 {
			t.Fatal("counts", n)
		}
	}
	if left < 1000 {
		t.Fatal("too few frames went out:", left)
	}
}

// P6: the same calls tell the same.
func TestSame(t *testing.T) {
	run := func(seed uint64) string {
		below := numbers(seed)
		h := newHost(t, config())
		var s []byte
		for now := range 300 {
			i := below(2)
			h.Frame(i, someFrame(below, config(), i))
			someCall(below, h)
			wantErr(t, "Step", h.Step(now, uint64(below(5))), api.OK)
			for i := range api.Cards {
				s = append(s, bytes.Join(outs(t, h, i), nil)...)
			}
		}
		return fmt.Sprint(string(s), h.Count(), view(t, h), h.Near(0), h.Near(1))
	}
	for seed := range uint64(10) {
		if run(seed) != run(seed) {
			t.Fatal(seed, "told otherwise")
		}
	}
}
