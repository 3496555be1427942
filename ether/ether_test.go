package ether_test

import (
	"bytes"
	"encoding/binary"
	"math"
	"testing"

	"trunkline/api"
	"trunkline/ether"
)

const (
	headLen = 14
	arpLen  = 28
)

// draws is a row of numbers that look like chance and are the same each time.
func draws(seed uint64) func() uint64 {
	return func() uint64 {
		seed += 0x9e3779b97f4a7c15
		z := (seed ^ seed>>30) * 0xbf58476d1ce4e5b9
		z = (z ^ z>>27) * 0x94d049bb133111eb
		return z ^ z>>31
	}
}

func drawBytes(draw func() uint64, n int) []byte {
	b := make([]byte, n)
	for i := range b {
		b[i] = byte(draw())
	}
	return b
}

// drawMac is a card's address, small ones and Everybody too.
func drawMac(draw func() uint64) uint64 {
	return [4]uint64{draw() & api.Everybody, draw() % 3, api.Everybody - draw()%2, 1 << (draw() % 48)}[draw()%4]
}

// mac is a card's address in six bytes.
func mac(v uint64) []byte { return binary.BigEndian.AppendUint64(nil, v)[2:] }

// frame is the bytes that a frame is to be.
func frame(x api.Ether) []byte {
	b := append(mac(x.To), mac(x.From)...)
	b = binary.BigEndian.AppendUint16(b, x.Kind)
	return append(b, x.Body...)
}

// arpFrame is the bytes that a question, or an answer, is to be.
func arpFrame(a api.Arp) []byte {
	b := []byte{0, 1, 8, 0, 6, 4}
	b = binary.BigEndian.AppendUint16(b, uint16(a.Op))
	b = append(b, mac(a.FromMac)...)
	b = binary.BigEndian.AppendUint32(b, a.FromIP)
	b = append(b, mac(a.ToMac)...)
	return binary.BigEndian.AppendUint32(b, a.ToIP)
}

func wantPut(t *testing.T, name string, x api.Ether, want []byte, wantErr api.Errno) {
	t.Helper()
	if b, e := ether.Put(x); e != wantErr || !bytes.Equal(b, want) {
		t.Errorf("%s: Put: % .20x, error %d; want % .20x, error %d", name, b, e, want, wantErr)
	}
}

func same(a, b api.Ether) bool {
	return a.To == b.To && a.From == b.From && a.Kind == b.Kind && bytes.Equal(a.Body, b.Body)
}

func wantTake(t *testing.T, name string, b []byte, want api.Ether, wantErr api.Errno) {
	t.Helper()
	if x, e := ether.Take(b); e != wantErr || !same(x, want) {
		t.Errorf("%s: Take: %.60v, error %d; want %.60v, error %d", name, x, e, want, wantErr)
	}
}

func wantPutArp(t *testing.T, a api.Arp, want []byte, wantErr api.Errno) {
	t.Helper()
	if b, e := ether.PutArp(a); e != wantErr || !bytes.Equal(b, want) {
		t.Errorf("PutArp(%v): % x, error %d; want % x, error %d", a, b, e, want, wantErr)
	}
}

func wantTakeArp(t *testing.T, name string, b []byte, want api.Arp, wantErr api.Errno) {
	t.Helper()
	if a, e := ether.TakeArp(b); e != wantErr || a != want {
		t.Errorf("%s: TakeArp: %v, error %d; want %v, error %d", name, a, e, want, wantErr)
	}
}

// P8.1, Put: To, From, Kind and Body, one behind the other.
func TestPut(t *testing.T) {
	wantPut(t, "ordinary", api.Ether{To: 0x010203040506, From: 0x0a0b0c0d0e0f, Kind: api.KindIP, Body: []byte("xy")},
		[]byte{1, 2, 3, 4, 5, 6, 10, 11, 12, 13, 14, 15, 8, 0, 'x', 'y'}, api.OK)
	wantPut(t, "no body", api.Ether{To: api.Everybody, Kind: api.KindArp},
		[]byte{255, 255, 255, 255, 255, 255, 0, 0, 0, 0, 0, 0, 8, 6}, api.OK)
	for _, kind := range []uint16{0x600, 0x601, 0x7ff, 0x86dd, 0xffff} {
		x := api.Ether{To: 1, From: api.Everybody, Kind: kind, Body: []byte{0}}
		wantPut(t, "a kind", x, frame(x), api.OK)
	}
	for _, size := range []int{0, 1, 45, 46, api.MaxBody - 1, api.MaxBody} {
		x := api.Ether{To: 1, From: 2, Kind: 0x600, Body: bytes.Repeat([]byte{7}, size)}
		wantPut(t, "a body", x, frame(x), api.OK)
	}
}

// P8.1, Put: what may not be.
func TestPutRefuses(t *testing.T) {
	good := api.Ether{To: 1, From: 2, Kind: 0x600, Body: []byte{1}}
	for _, far := range []uint64{1 << 48, 1<<48 | 1, 1 << 63, math.MaxUint64} {
		x := good
		x.To = far
		wantPut(t, "To", x, nil, api.ErrArg)
		x = good
		x.From = far
		wantPut(t, "From", x, nil, api.ErrArg)
	}
	for _, kind := range []uint16{0, 1, 46, 1500, 0x5ff, 0x0500, 0x00ff, 6} {
		x := good
		x.Kind = kind
		wantPut(t, "Kind", x, nil, api.ErrArg)
	}
	x := good
	x.Body = make([]byte, api.MaxBody+1)
	wantPut(t, "Body", x, nil, api.ErrLimit)
	x.Body = make([]byte, 1<<20)
	wantPut(t, "Body", x, nil, api.ErrLimit)
}

// P2: Put tells an address or a kind that may not be ahead of a body that is too long.
func TestPutTellsTheFirstError(t *testing.T) {
	long := make([]byte, api.MaxBody+1)
	wantPut(t, "To", api.Ether{To: 1 << 48, From: 2, Kind: 0x600, Body: long}, nil, api.ErrArg)
	wantPut(t, "From", api.Ether{To: 1, From: 1 << 48, Kind: 0x600, Body: long}, nil, api.ErrArg)
	wantPut(t, "Kind", api.Ether{To: 1, From: 2, Kind: 0x5ff, Body: long}, nil, api.ErrArg)
}

// P8.1, Take: what the bytes say.
func TestTake(t *testing.T) {
	b := []byte{1, 2, 3, 4, 5, 6, 10, 11, 12, 13, 14, 15, 8, 6, 'x', 'y'}
	wantTake(t, "ordinary", b, api.Ether{To: 0x010203040506, From: 0x0a0b0c0d0e0f, Kind: api.KindArp, Body: []byte("xy")}, api.OK)
	wantTake(t, "no body", b[:headLen], api.Ether{To: 0x010203040506, From: 0x0a0b0c0d0e0f, Kind: api.KindArp}, api.OK)
	wantTake(t, "all bits", bytes.Repeat([]byte{255}, 15), api.Ether{To: api.Everybody, From: api.Everybody, Kind: 0xffff, Body: []byte{255}}, api.OK)
	most := bytes.Repeat([]byte{9}, api.MaxFrame)
	wantTake(t, "the longest", most, api.Ether{To: 0x090909090909, From: 0x090909090909, Kind: 0x0909, Body: most[headLen:]}, api.OK)
}

// P8.1, Take: too few bytes, too many, and a kind that is a length.
func TestTakeRefuses(t *testing.T) {
	full := bytes.Repeat([]byte{9}, api.MaxFrame+1)
	for n := range headLen {
		wantTake(t, "short", full[:n], api.Ether{}, api.ErrShort)
	}
	wantTake(t, "nil", nil, api.Ether{}, api.ErrShort)
	wantTake(t, "long", full, api.Ether{}, api.ErrLimit)
	wantTake(t, "much longer", make([]byte, 1<<20), api.Ether{}, api.ErrLimit)
	for kind := range 0x0800 {
		b := bytes.Clone(full[:20])
		binary.BigEndian.PutUint16(b[12:], uint16(kind))
		if kind < 0x600 {
			wantTake(t, "a length", b, api.Ether{}, api.ErrForm)
		} else {
			wantTake(t, "a kind", b, api.Ether{To: 0x090909090909, From: 0x090909090909, Kind: uint16(kind), Body: b[headLen:]}, api.OK)
		}
	}
}

// P2: Take tells that there are too many bytes ahead of a kind that is a length.
func TestTakeTellsTheFirstError(t *testing.T) {
	wantTake(t, "long, and a length", make([]byte, api.MaxFrame+1), api.Ether{}, api.ErrLimit)
	wantTake(t, "short, and a length", make([]byte, headLen-1), api.Ether{}, api.ErrShort)
	wantTake(t, "a length", make([]byte, api.MaxFrame), api.Ether{}, api.ErrForm)
}

// P8.1, For: is To the card, or Everybody?
func TestFor(t *testing.T) {
	for _, c := range []struct {
		to, mac uint64
		want    bool
	}{
		{5, 5, true},
		{5, 6, false},
		{0, 0, true},
		{0, 1, false},
		{api.Everybody, 5, true},
		{api.Everybody, 0, true},
		{api.Everybody, api.Everybody, true},
		{api.Everybody, math.MaxUint64, true},
		{5, api.Everybody, false},
		{5, 5 | 1<<48, false},
		{5 | 1<<48, 5, false},
		{math.MaxUint64, 5, false},
		{math.MaxUint64, math.MaxUint64, true},
		{0x010000000000, 5, false}, // others that more than one card hears are not asked for
	} {
		x := api.Ether{To: c.to, From: c.mac, Kind: api.KindIP}
		if got := ether.For(x, c.mac); got != c.want {
			t.Errorf("For(%x, %x): %v", c.to, c.mac, got)
		}
		x = api.Ether{To: c.to, From: 77, Kind: 0, Body: make([]byte, 1<<12)}
		if got := ether.For(x, c.mac); got != c.want {
			t.Errorf("For(%x, %x) of a frame that may not be: %v", c.to, c.mac, got)
		}
	}
}

// P8.2, PutArp: 28 bytes.
func TestPutArp(t *testing.T) {
	wantPutArp(t, api.Arp{Op: 1, FromMac: 0x010203040506, FromIP: 0x0a000001, ToMac: 0, ToIP: 0x0a000002}, []byte{
		0, 1, 8, 0, 6, 4, 0, 1, 1, 2, 3, 4, 5, 6, 10, 0, 0, 1, 0, 0, 0, 0, 0, 0, 10, 0, 0, 2,
	}, api.OK)
	wantPutArp(t, api.Arp{Op: 2, FromMac: api.Everybody, FromIP: math.MaxUint32, ToMac: 0x060504030201, ToIP: 0x01020304}, []byte{
		0, 1, 8, 0, 6, 4, 0, 2, 255, 255, 255, 255, 255, 255, 255, 255, 255, 255, 6, 5, 4, 3, 2, 1, 1, 2, 3, 4,
	}, api.OK)
	wantPutArp(t, api.Arp{Op: 2, ToMac: api.Everybody}, arpFrame(api.Arp{Op: 2, ToMac: api.Everybody}), api.OK)
}

// P8.2, PutArp: what may not be.
func TestPutArpRefuses(t *testing.T) {
	for _, op := range []int{0, 3, -1, -2, 256, 257, 258, 1<<16 + 1, 1<<16 + 2, math.MinInt, math.MinInt + 1, math.MaxInt} {
		wantPutArp(t, api.Arp{Op: op, FromMac: 1, ToMac: 2}, nil, api.ErrArg)
	}
	for _, far := range []uint64{1 << 48, 1 << 63, math.MaxUint64} {
		wantPutArp(t, api.Arp{Op: 1, FromMac: far, ToMac: 2}, nil, api.ErrArg)
		wantPutArp(t, api.Arp{Op: 2, FromMac: 1, ToMac: far}, nil, api.ErrArg)
	}
	wantPutArp(t, api.Arp{}, nil, api.ErrArg)
}

// P8.2, TakeArp: what the bytes say, whatever stands behind them.
func TestTakeArp(t *testing.T) {
	a := api.Arp{Op: 1, FromMac: 0x010203040506, FromIP: 0x0708090a, ToMac: 0x0b0c0d0e0f10, ToIP: 0x11121314}
	b := []byte{0, 1, 8, 0, 6, 4, 0, 1, 1, 2, 3, 4, 5, 6, 7, 8, 9, 10, 11, 12, 13, 14, 15, 16, 17, 18, 19, 20}
	wantTakeArp(t, "ordinary", b, a, api.OK)
	wantTakeArp(t, "a byte behind", append(bytes.Clone(b), 255), a, api.OK)
	wantTakeArp(t, "padding", append(bytes.Clone(b), make([]byte, 18)...), a, api.OK)
	wantTakeArp(t, "much behind", append(bytes.Clone(b), make([]byte, 1<<16)...), a, api.OK)
	b[7], a.Op = 2, 2
	wantTakeArp(t, "an answer", b, a, api.OK)
	for n := range arpLen {
		wantTakeArp(t, "short", b[:n], api.Arp{}, api.ErrShort)
	}
	wantTakeArp(t, "nil", nil, api.Arp{}, api.ErrShort)
}

// P8.2, TakeArp: each bit of the first eight bytes counts.
func TestTakeArpRefuses(t *testing.T) {
	good := arpFrame(api.Arp{Op: 1, FromMac: 1, FromIP: 2, ToMac: 3, ToIP: 4})
	for at := range 6 {
		for bit := range 8 {
			b := bytes.Clone(good)
			b[at] ^= 1 << bit
			wantTakeArp(t, "another beginning", b, api.Arp{}, api.ErrForm)
			b[7] = 9
			wantTakeArp(t, "another beginning, and no Op", b, api.Arp{}, api.ErrForm)
		}
	}
	for op := range 1 << 16 {
		if op == 1 || op == 2 {
			continue
		}
		b := bytes.Clone(good)
		binary.BigEndian.PutUint16(b[6:], uint16(op))
		wantTakeArp(t, "no Op", b, api.Arp{}, api.ErrType)
	}
}

// P2: TakeArp tells too few bytes first, then another form, then another Op.
func TestTakeArpTellsTheFirstError(t *testing.T) {
	wantTakeArp(t, "all wrong", make([]byte, arpLen-1), api.Arp{}, api.ErrShort)
	wantTakeArp(t, "form and Op", make([]byte, arpLen), api.Arp{}, api.ErrForm)
	wantTakeArp(t, "Op alone", []byte{0, 1, 8, 0, 6, 4, 27: 0}, api.Arp{}, api.ErrType)
}

// P8.4: Take of Put is the frame.
func TestTakeOfPut(t *testing.T) {
	draw := draws(84)
	for range 3000 {
		x := api.Ether{To: drawMac(draw), From: drawMac(draw), Kind: uint16(0x600 + draw()%(0x10000-0x600)), Body: drawBytes(draw, int(draw()%80))}
		wantPut(t, "a frame", x, frame(x), api.OK)
		wantTake(t, "a frame", frame(x), x, api.OK)
		b, _ := ether.Put(x)
		wantTake(t, "Take of Put", b, x, api.OK)
	}
}

// P8.4: Put of what Take takes are its bytes.
func TestPutOfTake(t *testing.T) {
	draw := draws(85)
	taken := 0
	for range 3000 {
		b := drawBytes(draw, int(draw()%120))
		if draw()%16 == 0 {
			b = drawBytes(draw, api.MaxFrame-3+int(draw()%6))
		}
		x, e := ether.Take(b)
		if e != api.OK {
			continue
		}
		taken++
		wantPut(t, "Put of Take", x, b, api.OK)
	}
	if taken < 1000 {
		t.Errorf("%d were taken", taken)
	}
}

// P8.4: TakeArp of PutArp is what was put.
func TestTakeArpOfPutArp(t *testing.T) {
	draw := draws(86)
	for range 3000 {
		a := api.Arp{Op: int(1 + draw()%2), FromMac: drawMac(draw), FromIP: uint32(draw()), ToMac: drawMac(draw), ToIP: uint32(draw())}
		wantPutArp(t, a, arpFrame(a), api.OK)
		b, _ := ether.PutArp(a)
		wantTakeArp(t, "TakeArp of PutArp", b, a, api.OK)
	}
}

// scribble writes over a list and the spare room behind it.
func scribble(b []byte) {
	b = b[:cap(b)]
	for i := range b {
		b[i] ^= 0x5a
	}
}

// P3: what is handed in stays as it is, spare room too, and what is answered is new memory.
func TestNewMemory(t *testing.T) {
	whole := bytes.Repeat([]byte{9}, 40)
	keep := bytes.Clone(whole)
	b, e := ether.Put(api.Ether{To: 1, From: 2, Kind: api.KindIP, Body: whole[:20]})
	if e != api.OK || !bytes.Equal(whole, keep) {
		t.Fatalf("Put changed the body, or error %d", e)
	}
	scribble(b)
	x, e := ether.Take(whole[:20])
	if e != api.OK || !bytes.Equal(whole, keep) {
		t.Fatalf("Take changed the bytes, or error %d", e)
	}
	scribble(x.Body)
	if !bytes.Equal(whole, keep) {
		t.Fatal("what is answered lies in what was handed in")
	}
	x, _ = ether.Take(whole[:headLen])
	scribble(x.Body)
	ether.TakeArp(whole[:arpLen])
	if !bytes.Equal(whole, keep) {
		t.Fatal("spare room was written to")
	}
	c, _ := ether.PutArp(api.Arp{Op: 1})
	d, _ := ether.PutArp(api.Arp{Op: 1})
	scribble(c)
	if !bytes.Equal(d, arpFrame(api.Arp{Op: 1})) {
		t.Error("two answers share memory")
	}
}

// P6: what is answered hangs on what is handed in alone.
func TestNothingIsKept(t *testing.T) {
	x := api.Ether{To: 3, From: 4, Kind: api.KindArp, Body: []byte("z")}
	a := api.Arp{Op: 2, FromMac: 5, FromIP: 6, ToMac: 7, ToIP: 8}
	for range 3 {
		wantPut(t, "a frame", x, frame(x), api.OK)
		wantTake(t, "a frame", frame(x), x, api.OK)
		wantTake(t, "none", nil, api.Ether{}, api.ErrShort)
		wantPutArp(t, a, arpFrame(a), api.OK)
		wantTakeArp(t, "an answer", arpFrame(a), a, api.OK)
		wantMac(t, "00:00:00:00:00:02", 2, 0, api.OK)
		wantMac(t, "00:0", 0, 4, api.ErrShort)
		b, _ := ether.Put(x)
		scribble(b)
		c, _ := ether.PutArp(a)
		scribble(c)
	}
}
