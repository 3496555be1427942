package host_test

import (
	"bytes"
	"fmt"
	"testing"

	"trunkline/api"
	"trunkline/assoc"
	"trunkline/chunk"
	"trunkline/ether"
	"trunkline/host"
	"trunkline/ip"
	"trunkline/sums"
)

const (
	far    = 9 // the card of who stands at the other end of each line
	secret = "key"
)

// config is the settings of a host; its peers are 11 and 21.
func config() api.Config {
	return api.Config{
		Macs: [2]uint64{1, 2}, Addrs: [2]uint32{10, 20}, Peers: [2]uint32{11, 21},
		Mtu: 200, Ring: 8, Streams: 2,
	}
}

// mirrored is the settings of the host at the other end of both lines.
func mirrored() api.Config {
	c := config()
	c.Macs = [2]uint64{3, 4}
	c.Addrs, c.Peers = c.Peers, c.Addrs
	return c
}

// numbers is a row of numbers that look like chance and are the same each time.
func numbers(seed uint64) func(below int) int {
	return func(below int) int {
		seed += 0x9e3779b97f4a7c15
		z := (seed ^ seed>>30) * 0xbf58476d1ce4e5b9
		z = (z ^ z>>27) * 0x94d049bb133111eb
		return int((z ^ z>>31) >> 1 % uint64(below))
	}
}

func someBytes(below func(int) int, n int) []byte {
	b := make([]byte, n)
	for i := range b {
		b[i] = byte(below(256))
	}
	return b
}

func wantErr(t *testing.T, what string, e, want api.Errno) {
	t.Helper()
	if e != want {
		t.Fatalf("%s: error %d; want %d", what, e, want)
	}
}

func newHost(t *testing.T, c api.Config) *host.Host {
	t.Helper()
	h, e := host.New(c, []byte(secret))
	wantErr(t, "New", e, api.OK)
	return h
}

func wantCounts(t *testing.T, h *host.Host, want api.Counts) {
	t.Helper()
	if got := h.Count(); got != want {
		t.Fatalf("counts %+v; want %+v", got, want)
	}
}

func wantUsed(t *testing.T, h *host.Host, socks, held, frames int) {
	t.Helper()
	if x, y, z := h.Used(); x != socks || y != held || z != frames {
		t.Fatalf("used %d, %d, %d; want %d, %d, %d", x, y, z, socks, held, frames)
	}
}

func bind(t *testing.T, h *host.Host, port uint16) int {
	t.Helper()
	id, e := h.Bind(port)
	wantErr(t, "Bind", e, api.OK)
	return id
}

// listen is a socket that listens.
func listen(t *testing.T, h *host.Host, port uint16) int {
	t.Helper()
	id := bind(t, h, port)
	wantErr(t, "Listen", h.Listen(id), api.OK)
	return id
}

// connect is a socket that asks for an association.
func connect(t *testing.T, h *host.Host, port, peer uint16, draw uint64) int {
	t.Helper()
	id := bind(t, h, port)
	wantErr(t, "Connect", h.Connect(id, peer, draw), api.OK)
	return id
}

func accept(t *testing.T, h *host.Host, id int) int {
	t.Helper()
	n, e := h.Accept(id)
	wantErr(t, "Accept", e, api.OK)
	return n
}

func wantState(t *testing.T, h *host.Host, id int, want api.State) {
	t.Helper()
	got, e := h.State(id)
	wantErr(t, "State", e, api.OK)
	if got != want {
		t.Fatalf("state %d; want %d", got, want)
	}
}

// wantNotices takes all notices of a socket.
func wantNotices(t *testing.T, h *host.Host, id int, want ...api.Notice) {
	t.Helper()
	var got []api.Notice
	for {
		n, e := h.Notice(id)
		if e == api.ErrEmpty {
			break
		}
		wantErr(t, "Notice", e, api.OK)
		got = append(got, n)
	}
	if fmt.Sprint(got) != fmt.Sprint(want) {
		t.Fatalf("notices %v; want %v", got, want)
	}
}

// wantTold takes all messages of a socket, by their bytes.
func wantTold(t *testing.T, h *host.Host, id int, want ...string) {
	t.Helper()
	var got []string
	for {
		m, e := h.Recv(id)
		if e == api.ErrEmpty {
			break
		}
		wantErr(t, "Recv", e, api.OK)
		got = append(got, string(m.Data))
	}
	if fmt.Sprint(got) != fmt.Sprint(want) {
		t.Fatalf("told %q; want %q", got, want)
	}
}

func step(t *testing.T, h *host.Host, now int) {
	t.Helper()
	wantErr(t, "Step", h.Step(now, uint64(now)), api.OK)
}

// feed has frames come to a card, and the host take them.
func feed(t *testing.T, h *host.Host, now, i int, frames ...[]byte) {
	t.Helper()
	for _, b := range frames {
		wantErr(t, "Frame", h.Frame(i, b), api.OK)
	}
	step(t, h, now)
}

// framed is a frame from the far card to a card of the host.
func framed(t *testing.T, i int, kind uint16, body []byte) []byte {
	t.Helper()
	b, e := ether.Put(api.Ether{To: uint64(i + 1), From: far, Kind: kind, Body: body})
	wantErr(t, "a frame", e, api.OK)
	return b
}

func arpFrame(t *testing.T, i int, a api.Arp) []byte {
	t.Helper()
	b, e := ether.PutArp(a)
	wantErr(t, "PutArp", e, api.OK)
	return framed(t, i, api.KindArp, b)
}

func packetFrame(t *testing.T, i int, p api.Packet) []byte {
	t.Helper()
	b, e := ip.Put(p)
	wantErr(t, "ip.Put", e, api.OK)
	return framed(t, i, api.KindIP, b)
}

// sctpFrame is a frame with a packet of SCTP's bytes, from the card's peer.
func sctpFrame(t *testing.T, i int, b []byte) []byte {
	t.Helper()
	c := config()
	return packetFrame(t, i, api.Packet{Src: c.Peers[i], Dst: c.Addrs[i], Proto: api.ProtoSctp, TTL: api.TTL, Dont: true, Body: b})
}

func chunksFrame(t *testing.T, i int, head api.Head, chunks ...api.Chunk) []byte {
	t.Helper()
	b, e := chunk.Put(head, chunks)
	wantErr(t, "chunk.Put", e, api.OK)
	return sctpFrame(t, i, b)
}

// meetNeighbours has the host know its peers, at the far card.
func meetNeighbours(t *testing.T, h *host.Host, now int) {
	t.Helper()
	c := config()
	for i := range api.Cards {
		feed(t, h, now, i, arpFrame(t, i, api.Arp{Op: 1, FromMac: far, FromIP: c.Peers[i], ToIP: c.Addrs[i]}))
		if l := outs(t, h, i); len(l) != 1 {
			t.Fatal("no answer to a question", l)
		}
	}
}

// outs are all frames that a card sends.
func outs(t *testing.T, h *host.Host, i int) [][]byte {
	t.Helper()
	var l [][]byte
	for {
		b, e := h.Out(i)
		if e == api.ErrEmpty && len(b) == 0 {
			return l
		}
		wantErr(t, "Out", e, api.OK)
		l = append(l, b)
	}
}

// mayLeave: may a frame go out by a card of Mtu bytes? (P17.9)
func mayLeave(c api.Config, i int, b []byte) error {
	x, e := ether.Take(b)
	if e != api.OK || x.From != c.Macs[i] || len(x.Body) > c.Mtu {
		return fmt.Errorf("a frame of %d bytes from %x: error %d", len(b), x.From, e)
	}
	if x.Kind == api.KindArp {
		a, e := ether.TakeArp(x.Body)
		if e != api.OK || a.FromMac != c.Macs[i] || a.FromIP != c.Addrs[i] {
			return fmt.Errorf("ARP's %+v: error %d", a, e)
		}
		return nil
	}
	p, e := ip.Take(x.Body)
	if e != api.OK || x.Kind != api.KindIP || p.Src != c.Addrs[i] || len(x.Body) != api.HeadIP+len(p.Body) {
		return fmt.Errorf("a packet of kind %x from %d: error %d", x.Kind, p.Src, e)
	}
	if p.Proto == api.ProtoSctp && (!sums.Stamped(p.Body) || !p.Dont || p.Dst != c.Peers[i] || p.TTL != api.TTL) {
		return fmt.Errorf("a packet of SCTP that may not be: %+v", p)
	}
	if p.Proto == api.ProtoIcmp && p.Off == 0 && !p.More {
		if _, e := ip.TakeIcmp(p.Body); e != api.OK {
			return fmt.Errorf("a message of ICMP: error %d", e)
		}
	}
	return nil
}

// packets are all packets of IP that a card sends, to the far card.
func packets(t *testing.T, h *host.Host, i int) []api.Packet {
	t.Helper()
	var l []api.Packet
	for _, b := range outs(t, h, i) {
		if err := mayLeave(config(), i, b); err != nil {
			t.Fatal(err)
		}
		x, _ := ether.Take(b)
		p, e := ip.Take(x.Body)
		if e != api.OK || x.To != far {
			t.Fatalf("a frame to %x: error %d", x.To, e)
		}
		l = append(l, p)
	}
	return l
}

// sent is a packet of SCTP that went out.
type sent struct {
	head   api.Head
	chunks []api.Chunk
}

func sents(t *testing.T, h *host.Host, i int) []sent {
	t.Helper()
	var l []sent
	for _, p := range packets(t, h, i) {
		head, chunks, e := chunk.Take(p.Body)
		wantErr(t, "chunk.Take", e, api.OK)
		l = append(l, sent{head, chunks})
	}
	return l
}

// wantSent holds all packets of SCTP that a card sends against those that it is to send.
func wantSent(t *testing.T, h *host.Host, i int, want ...sent) {
	t.Helper()
	if got := sents(t, h, i); fmt.Sprintf("%+v", got) != fmt.Sprintf("%+v", want) {
		t.Fatalf("card %d sent %+v;\nwant %+v", i, got, want)
	}
}

// cookieFor asks the host, at its port, as one with a tag, and is the packet with the cookie that would come back.
func cookieFor(t *testing.T, h *host.Host, now int, from, to uint16, tag uint32) []byte {
	t.Helper()
	wantErr(t, "Frame", h.Frame(0, chunksFrame(t, 0, api.Head{From: from, To: to}, initOf(tag))), api.OK)
	wantErr(t, "Step", h.Step(now, uint64(tag)), api.OK)
	l := sents(t, h, 0)
	if len(l) != 1 || l[0].chunks[0].Type != api.InitAck {
		t.Fatalf("an answer: %+v", l)
	}
	ack := l[0].chunks[0]
	b, e := chunk.Put(api.Head{From: from, To: to, Tag: ack.Tag}, []api.Chunk{{Type: api.CookieEcho, Data: ack.Params[0].Value}})
	wantErr(t, "chunk.Put", e, api.OK)
	return b
}

// tagOf is the tag of a packet.
func tagOf(t *testing.T, b []byte) uint32 {
	t.Helper()
	head, _, e := chunk.Take(b)
	wantErr(t, "chunk.Take", e, api.OK)
	return head.Tag
}

func initOf(tag uint32) api.Chunk {
	return api.Chunk{Type: api.Init, Tag: tag, Room: api.MaxRoom, Outs: 2, Ins: 2, TSN: 1}
}

// caller is an association that stands outside the host and asks it, from a port.
func caller(t *testing.T, from, to uint16, now int) *assoc.Assoc {
	t.Helper()
	a, e := assoc.Open(api.Side{Port: from, PeerPort: to, Streams: 2, Mtu: 200}, now, uint64(from)<<40|uint64(now)<<8)
	wantErr(t, "Open", e, api.OK)
	return a
}

// talk carries packets between an association outside and the host, by the cards, till there is none.
func talk(t *testing.T, h *host.Host, a *assoc.Assoc, now int) {
	t.Helper()
	for range 20 {
		out := a.Pull()
		for _, s := range out {
			wantErr(t, "Frame", h.Frame(s.Way, sctpFrame(t, s.Way, s.Bytes)), api.OK)
		}
		step(t, h, now)
		came := 0
		for i := range api.Cards {
			for _, p := range packets(t, h, i) {
				a.Take(p.Body, i, now)
				came++
			}
		}
		if came+len(out) == 0 {
			return
		}
	}
}

// joined is a host that knows its neighbours, with a listener (socket 1) at port 5 and an accepted socket, of whom the other end, at port 9, stands outside.
func joined(t *testing.T) (*host.Host, *assoc.Assoc, int) {
	t.Helper()
	h := newHost(t, config())
	meetNeighbours(t, h, 0)
	listen(t, h, 5)
	a := caller(t, 9, 5, 0)
	talk(t, h, a, 1)
	id := accept(t, h, 1)
	wantState(t, h, id, api.Established)
	wantNotices(t, h, id, api.Came)
	return h, a, id
}

// two is two hosts, joined by two lines.
type two struct {
	hosts [2]*host.Host
	now   int
	cut   bool // nothing comes any more
}

func newTwo(t *testing.T) *two {
	t.Helper()
	return &two{hosts: [2]*host.Host{newHost(t, config()), newHost(t, mirrored())}}
}

// calm is ticks in which all frames come.
func (w *two) calm(t *testing.T, ticks int) {
	t.Helper()
	for range ticks {
		w.now++
		for range 40 {
			for k, h := range w.hosts {
				wantErr(t, "Step", h.Step(w.now, uint64(2*w.now+k)), api.OK)
			}
			if !w.carry(t) {
				break
			}
		}
	}
}

func (w *two) carry(t *testing.T) bool {
	t.Helper()
	came := false
	for k, h := range w.hosts {
		for i := range api.Cards {
			for _, b := range outs(t, h, i) {
				if !w.cut {
					wantErr(t, "Frame", w.hosts[1-k].Frame(i, bytes.Clone(b)), api.OK)
				}
				came = true
			}
		}
	}
	return came
}

// linkedTwo is two hosts whose sockets are linked: socket 1 of the first one, and one of the second one, which is told.
func linkedTwo(t *testing.T) (*two, int) {
	t.Helper()
	w := newTwo(t)
	listen(t, w.hosts[1], 5)
	connect(t, w.hosts[0], 9, 5, 77)
	w.calm(t, 3)
	id := accept(t, w.hosts[1], 1)
	wantNotices(t, w.hosts[0], 1, api.Came)
	wantNotices(t, w.hosts[1], id, api.Came)
	return w, id
}
