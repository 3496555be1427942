package assoc_test

import (
	"fmt"
	"testing"

	"trunkline/api"
	"trunkline/assoc"
	"trunkline/chunk"
)

const (
	secret = "key"
	start  = 10 // the tick at which all begins

	// Of who asks, and of who is asked: tag, first TSN, and the draw of which they come.
	startTag, startTSN = 7, 1
	madeTag, madeTSN   = 0x21, 100
	askDraw            = startTSN<<32 | 6
	tellDraw           = madeTSN<<32 | 0x20
)

var (
	asker = api.Side{Port: 9, PeerPort: 5, Streams: 3, Mtu: 500}
	asked = api.Side{Port: 5, Streams: 2, Mtu: 500}
)

// draws is a row of numbers that look like chance and are the same each time.
func draws(seed uint64) func() uint64 {
	return func() uint64 {
		seed += 0x9e3779b97f4a7c15
		z := (seed ^ seed>>30) * 0xbf58476d1ce4e5b9
		z = (z ^ z>>27) * 0x94d049bb133111eb
		return z ^ z>>31
	}
}

func drawBytes(draw func() uint64, n int) []byte {
	b := make([]byte, n)
	for i := range b {
		b[i] = byte(draw())
	}
	return b
}

// brief is the beginning of what x is.
func brief(x any) string {
	s := fmt.Sprintf("%+v", x)
	return s[:min(300, len(s))]
}

func wantErr(t *testing.T, what string, e, want api.Errno) {
	t.Helper()
	if e != want {
		t.Fatalf("%s: error %d; want %d", what, e, want)
	}
}

func wantState(t *testing.T, a *assoc.Assoc, want api.State) {
	t.Helper()
	if got := a.Stands(); got != want {
		t.Fatalf("state %d; want %d", got, want)
	}
}

// wantNotices takes all notices.
func wantNotices(t *testing.T, a *assoc.Assoc, want ...api.Notice) {
	t.Helper()
	var got []api.Notice
	for {
		n, e := a.Notice()
		if e == api.ErrEmpty && n == api.NoNotice {
			break
		}
		wantErr(t, "Notice", e, api.OK)
		got = append(got, n)
	}
	if fmt.Sprint(got) != fmt.Sprint(want) {
		t.Fatalf("notices %v; want %v", got, want)
	}
}

// wantTold takes all messages, by their bytes.
func wantTold(t *testing.T, a *assoc.Assoc, want ...string) {
	t.Helper()
	var got []string
	for {
		m, e := a.Recv()
		if e == api.ErrEmpty {
			break
		}
		wantErr(t, "Recv", e, api.OK)
		got = append(got, string(m.Data))
	}
	if fmt.Sprint(got) != fmt.Sprint(want) {
		t.Fatalf("told %q; want %q", brief(got), brief(want))
	}
}

func wantLeft(t *testing.T, a *assoc.Assoc, out, in, inbox int) {
	t.Helper()
	if x, y, z := a.Left(); x != out || y != in || z != inbox {
		t.Fatalf("Left: %d, %d, %d; want %d, %d, %d", x, y, z, out, in, inbox)
	}
}

func wantNext(t *testing.T, a *assoc.Assoc, want int) {
	t.Helper()
	if at, ok := a.Next(); at != want || !ok {
		t.Fatalf("Next: %d, %v; want %d", at, ok, want)
	}
}

func wantNoNext(t *testing.T, a *assoc.Assoc) {
	t.Helper()
	if at, ok := a.Next(); at != 0 || ok {
		t.Fatalf("Next: %d, %v; want none", at, ok)
	}
}

func way(t *testing.T, a *assoc.Assoc, i int) api.Way {
	t.Helper()
	w, e := a.Way(i)
	wantErr(t, "Way", e, api.OK)
	return w
}

// sent is a packet that goes out: on which way, and what is in it.
type sent struct {
	way    int
	head   api.Head
	chunks []api.Chunk
}

func pull(t *testing.T, a *assoc.Assoc) []sent {
	t.Helper()
	var l []sent
	for _, s := range a.Pull() {
		h, chunks, e := chunk.Take(s.Bytes)
		wantErr(t, "a packet", e, api.OK)
		l = append(l, sent{s.Way, h, chunks})
	}
	return l
}

// wantPull pulls all, and holds it against packets.
func wantPull(t *testing.T, a *assoc.Assoc, want ...sent) {
	t.Helper()
	if got := pull(t, a); fmt.Sprintf("%+v", got) != fmt.Sprintf("%+v", want) {
		t.Fatalf("pulled %+v;\nwant %+v", got, want)
	}
}

// fromAsker, fromMade are packets of the two sides.
func fromAsker(way int, chunks ...api.Chunk) sent {
	return sent{way, api.Head{From: 9, To: 5, Tag: madeTag}, chunks}
}

func fromMade(way int, chunks ...api.Chunk) sent {
	return sent{way, api.Head{From: 5, To: 9, Tag: startTag}, chunks}
}

func (s sent) bytes(t *testing.T) []byte {
	t.Helper()
	b, e := chunk.Put(s.head, s.chunks)
	wantErr(t, "Put", e, api.OK)
	return b
}

// toAsker, toMade have chunks come to one of the sides.
func toAsker(t *testing.T, a *assoc.Assoc, w, now int, chunks ...api.Chunk) {
	t.Helper()
	wantErr(t, "Take", a.Take(fromMade(w, chunks...).bytes(t), w, now), api.OK)
}

func toMade(t *testing.T, p *assoc.Assoc, w, now int, chunks ...api.Chunk) {
	t.Helper()
	wantErr(t, "Take", p.Take(fromAsker(w, chunks...).bytes(t), w, now), api.OK)
}

func tick(t *testing.T, a *assoc.Assoc, now int) {
	t.Helper()
	wantErr(t, "Tick", a.Tick(now, 0), api.OK)
}

func send(t *testing.T, a *assoc.Assoc, data ...string) {
	t.Helper()
	for _, x := range data {
		wantErr(t, "Send", a.Send(api.Msg{Data: []byte(x)}), api.OK)
	}
}

// piece is a whole message in a piece, on stream 0.
func piece(tsn uint32, ssn uint16, data string) api.Chunk {
	return api.Chunk{Type: api.Data, Flags: api.FlagBegin | api.FlagEnd, TSN: tsn, SSN: ssn, Data: []byte(data)}
}

func sack(tsn uint32, room int, blocks ...[2]uint16) api.Chunk {
	return api.Chunk{Type: api.Sack, TSN: tsn, Room: uint32(room), Blocks: blocks}
}

func of(kind uint8) api.Chunk { return api.Chunk{Type: kind} }

func shutdown(tsn uint32) api.Chunk { return api.Chunk{Type: api.Shutdown, TSN: tsn} }

func beat(kind uint8, nonce uint64) api.Chunk {
	value := make([]byte, 8)
	for i := range value {
		value[i] = byte(nonce >> (56 - 8*i))
	}
	return api.Chunk{Type: kind, Params: []api.Param{{Kind: 1, Value: value}}}
}

func listen(t *testing.T, s api.Side) *assoc.Listener {
	t.Helper()
	l, e := assoc.Listen(s, []byte(secret))
	wantErr(t, "Listen", e, api.OK)
	return l
}

func open(t *testing.T, s api.Side) *assoc.Assoc {
	t.Helper()
	a, e := assoc.Open(s, start, askDraw)
	wantErr(t, "Open", e, api.OK)
	return a
}

// echoed is one who asked, and has a cookie: it, the listener, and the packet with the cookie.
func echoed(t *testing.T, s, ls api.Side) (*assoc.Assoc, *assoc.Listener, []byte) {
	t.Helper()
	l, a := listen(t, ls), open(t, s)
	answer, e := l.Init(a.Pull()[0].Bytes, start, tellDraw)
	wantErr(t, "Init", e, api.OK)
	wantErr(t, "Take", a.Take(answer, 0, start), api.OK)
	return a, l, a.Pull()[0].Bytes
}

// meet is two sides that are established, with nothing under way.
func meet(t *testing.T, s, ls api.Side) (*assoc.Assoc, *assoc.Assoc) {
	t.Helper()
	a, l, b := echoed(t, s, ls)
	p, e := l.Echo(b, 0, start)
	wantErr(t, "Echo", e, api.OK)
	wantErr(t, "Take", a.Take(p.Pull()[0].Bytes, 0, start), api.OK)
	wantNotices(t, a, api.Came)
	wantNotices(t, p, api.Came)
	return a, p
}
