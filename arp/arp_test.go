package arp_test

import (
	"bytes"
	"encoding/binary"
	"math"
	"slices"
	"strconv"
	"testing"

	"trunkline/api"
	"trunkline/arp"
)

const (
	card = 0x02000000000a
	own  = 0x0a000001
)

// draws is a row of numbers that look like chance and are the same each time.
func draws(seed uint64) func() uint64 {
	return func() uint64 {
		seed += 0x9e3779b97f4a7c15
		z := (seed ^ seed>>30) * 0xbf58476d1ce4e5b9
		z = (z ^ z>>27) * 0x94d049bb133111eb
		return z ^ z>>31
	}
}

// mac is a card's address in six bytes.
func mac(v uint64) []byte { return binary.BigEndian.AppendUint64(nil, v)[2:] }

// frame is the bytes that a frame is to be.
func frame(to, from uint64, kind uint16, body []byte) []byte {
	b := append(mac(to), mac(from)...)
	b = binary.BigEndian.AppendUint16(b, kind)
	return append(b, body...)
}

// told is the frame that a question, or an answer, is to be.
func told(to, from uint64, op uint16, fromIP uint32, toMac uint64, toIP uint32) []byte {
	b := []byte{0, 1, 8, 0, 6, 4}
	b = binary.BigEndian.AppendUint16(b, op)
	b = append(b, mac(from)...)
	b = binary.BigEndian.AppendUint32(b, fromIP)
	b = append(b, mac(toMac)...)
	b = binary.BigEndian.AppendUint32(b, toIP)
	return frame(to, from, 0x0806, b)
}

// asks is the question of the tests' cache, answers its answer, carries its frame of a body.
func asks(to uint32) []byte                    { return told(1<<48-1, card, 1, own, 0, to) }
func answers(toMac uint64, to uint32) []byte   { return told(toMac, card, 2, own, toMac, to) }
func carries(toMac uint64, body string) []byte { return frame(toMac, card, 0x0800, []byte(body)) }

// made is the tests' cache, which must be.
func made(t *testing.T) *arp.Cache {
	t.Helper()
	c, e := arp.New(card, own)
	if e != api.OK || c == nil {
		t.Fatalf("New: %v, error %d", c, e)
	}
	return c
}

func wantFrames(t *testing.T, name string, got [][]byte, e api.Errno, want [][]byte, wantErr api.Errno) {
	t.Helper()
	if e != wantErr || !slices.EqualFunc(got, want, bytes.Equal) {
		t.Fatalf("%s: % x, error %d; want % x, error %d", name, got, e, want, wantErr)
	}
}

func wantSend(t *testing.T, c *arp.Cache, to uint32, body string, now int, wantErr api.Errno, want ...[]byte) {
	t.Helper()
	got, e := c.Send(to, []byte(body), now)
	wantFrames(t, "Send", got, e, want, wantErr)
}

func wantTake(t *testing.T, c *arp.Cache, a api.Arp, now int, wantErr api.Errno, want ...[]byte) {
	t.Helper()
	got, e := c.Take(a, now)
	wantFrames(t, "Take", got, e, want, wantErr)
}

func wantTick(t *testing.T, c *arp.Cache, now int, wantErr api.Errno, want ...[]byte) {
	t.Helper()
	got, e := c.Tick(now)
	wantFrames(t, "Tick", got, e, want, wantErr)
}

func wantLost(t *testing.T, c *arp.Cache, want int) {
	t.Helper()
	if got := c.Lost(); got != want {
		t.Fatalf("Lost: %d; want %d", got, want)
	}
}

func wantTable(t *testing.T, c *arp.Cache, want ...api.Neighbour) {
	t.Helper()
	if got := c.Table(); !slices.Equal(got, want) {
		t.Fatalf("Table: %v; want %v", got, want)
	}
}

// answered is an answer of a neighbour to the tests' cache.
func answered(from uint64, fromIP uint32) api.Arp {
	return api.Arp{Op: 2, FromMac: from, FromIP: fromIP, ToMac: card, ToIP: own}
}

// known and asked are what a table is to tell of a neighbour.
func known(ip uint32, mac uint64) api.Neighbour { return api.Neighbour{IP: ip, Mac: mac, Known: true} }
func asked(ip uint32, pending int) api.Neighbour {
	return api.Neighbour{IP: ip, Pending: pending}
}

// P9.1, New: any card's address but that of all, any IP address.
func TestNew(t *testing.T) {
	for _, m := range []uint64{0, 1, card, 1<<47 | 1, 1<<48 - 2} {
		for _, ip := range []uint32{0, own, math.MaxUint32} {
			c, e := arp.New(m, ip)
			if e != api.OK || c == nil {
				t.Fatalf("New(%x, %x): %v, error %d", m, ip, c, e)
			}
			wantTable(t, c)
			wantLost(t, c, 0)
			wantSend(t, c, 5, "x", 0, api.OK, told(1<<48-1, m, 1, ip, 0, 5))
		}
	}
	for _, m := range []uint64{1<<48 - 1, 1 << 48, 1<<48 | 1, 1 << 63, math.MaxUint64} {
		if c, e := arp.New(m, own); c != nil || e != api.ErrArg {
			t.Errorf("New(%x): %v, error %d", m, c, e)
		}
	}
}

// P9.1 and P1: what nil answers, whatever else is wrong.
func TestNil(t *testing.T) {
	var c *arp.Cache
	for _, now := range []int{0, -1, math.MaxInt} {
		wantSend(t, c, 5, "x", now, api.ErrNil)
		wantSend(t, c, 5, "", now, api.ErrNil)
		wantTake(t, c, answered(7, 5), now, api.ErrNil)
		wantTake(t, c, api.Arp{}, now, api.ErrNil)
		wantTick(t, c, now, api.ErrNil)
	}
	wantTable(t, c)
	wantLost(t, c, 0)
	if f := c.Fork(); f != nil {
		t.Errorf("Fork: %v", f)
	}
}

// P1: one that no call made answers, whatever it answers.
func TestOneThatNoCallMade(t *testing.T) {
	var c arp.Cache
	c.Fork().Send(1, []byte("a"), 0)
	c.Send(1, []byte("a"), 0)
	c.Take(api.Arp{FromIP: 2}, 1)
	c.Tick(20)
	c.Table()
	c.Lost()
}

// wantAll holds all calls at a tick, right ones and wrong ones, against an error.
func wantAll(t *testing.T, c *arp.Cache, now int, want api.Errno) {
	t.Helper()
	wantSend(t, c, 5, "x", now, want)
	wantSend(t, c, 5, "", now, want)
	wantTake(t, c, answered(7, 5), now, want)
	wantTake(t, c, answered(7, own), now, want)
	wantTake(t, c, answered(1<<48-1, 5), now, want)
	wantTick(t, c, now, want)
}

// P9.1 and P2: ticks that may not be are told ahead of all else, and nothing comes of these calls.
func TestTicksThatMayNotBe(t *testing.T) {
	c := made(t)
	for _, now := range []int{-1, math.MinInt, api.MaxTick + 1, math.MaxInt} {
		wantAll(t, c, now, api.ErrArg)
	}
	wantTick(t, c, 100, api.OK)
	wantAll(t, c, 99, api.ErrTick)
	wantAll(t, c, 0, api.ErrTick)
	wantAll(t, c, -1, api.ErrArg)
	wantAll(t, c, api.MaxTick+1, api.ErrArg)
	wantTable(t, c)
	wantLost(t, c, 0)
	wantTick(t, c, 100, api.OK)
	wantTick(t, c, api.MaxTick, api.OK)
	wantAll(t, c, api.MaxTick-1, api.ErrTick)
	wantTick(t, c, api.MaxTick, api.OK)
}

// P9.1: each of the calls has its tick be the least one.
func TestEachCallSetsTheTick(t *testing.T) {
	calls := map[string]func(c *arp.Cache, now int) api.Errno{
		"Send, asked":   func(c *arp.Cache, now int) api.Errno { _, e := c.Send(50, []byte("a"), now); return e },
		"Send, waiting": func(c *arp.Cache, now int) api.Errno { _, e := c.Send(51, []byte("a"), now); return e },
		"Send, known":   func(c *arp.Cache, now int) api.Errno { _, e := c.Send(52, []byte("a"), now); return e },
		"Take":          func(c *arp.Cache, now int) api.Errno { _, e := c.Take(answered(3, 53), now); return e },
		"Take, alien":   func(c *arp.Cache, now int) api.Errno { _, e := c.Take(api.Arp{Op: 1, FromIP: 54}, now); return e },
		"Tick":          func(c *arp.Cache, now int) api.Errno { _, e := c.Tick(now); return e },
	}
	for name, call := range calls {
		c := made(t)
		wantSend(t, c, 51, "x", 0, api.OK, asks(51))
		wantTake(t, c, answered(9, 52), 0, api.OK)
		if e := call(c, 7); e != api.OK {
			t.Fatalf("%s: error %d", name, e)
		}
		wantTick(t, c, 6, api.ErrTick)
		wantTick(t, c, 7, api.OK)
	}
}

// P2: calls that are errors do not have their tick be the least one.
func TestErrorsLeaveTheTick(t *testing.T) {
	c := made(t)
	for range api.MaxPending {
		c.Send(5, []byte("x"), 3)
	}
	wantSend(t, c, 5, "", 8, api.ErrLimit)
	wantTake(t, c, answered(7, own), 8, api.ErrAddr)
	wantSend(t, c, 5, "x", 8, api.ErrFull)
	wantLost(t, c, 1)
	wantTick(t, c, 2, api.ErrTick)
	wantTick(t, c, 3, api.OK)
}

// P9.2: the chapter's example, and bodies that wait leave in their order.
func TestSend(t *testing.T) {
	c := made(t)
	wantSend(t, c, 20, "one", 5, api.OK, asks(20))
	wantTable(t, c, asked(20, 1))
	wantSend(t, c, 20, "two", 5, api.OK)
	wantSend(t, c, 20, "three", 6, api.OK)
	wantTable(t, c, asked(20, 3))
	wantTake(t, c, answered(9, 20), 7, api.OK, carries(9, "one"), carries(9, "two"), carries(9, "three"))
	wantTable(t, c, known(20, 9))
	wantSend(t, c, 20, "four", 8, api.OK, carries(9, "four"))
	wantTable(t, c, known(20, 9))
	wantTake(t, c, answered(9, 20), 9, api.OK)
	wantLost(t, c, 0)
}

// P9.2: from 1 byte to MaxBody, whether the neighbour is known or not; others are not counted as lost.
func TestHowManyBytesAreSent(t *testing.T) {
	c := made(t)
	wantTake(t, c, answered(9, 20), 0, api.OK)
	most := string(bytes.Repeat([]byte("abc"), 500))
	for _, to := range []uint32{20, 30} {
		wantSend(t, c, to, "", 0, api.ErrLimit)
		wantSend(t, c, to, most+"x", 0, api.ErrLimit)
		wantSend(t, c, to, string(make([]byte, 1<<20)), 0, api.ErrLimit)
		if f, e := c.Send(to, nil, 0); len(f) != 0 || e != api.ErrLimit {
			t.Fatalf("nil: %v, error %d", f, e)
		}
	}
	wantTable(t, c, known(20, 9))
	wantSend(t, c, 20, most, 0, api.OK, carries(9, most))
	wantSend(t, c, 20, "y", 0, api.OK, carries(9, "y"))
	wantSend(t, c, 30, most, 0, api.OK, asks(30))
	wantTake(t, c, answered(8, 30), 0, api.OK, carries(8, most))
	wantLost(t, c, 0)
}

// P9.2: MaxPending bodies wait; others are lost, and those that wait stay.
func TestPending(t *testing.T) {
	c := made(t)
	wantSend(t, c, 20, "0", 0, api.OK, asks(20))
	var want [][]byte
	for i := range api.MaxPending {
		if i > 0 {
			wantSend(t, c, 20, strconv.Itoa(i), 0, api.OK)
		}
		want = append(want, carries(9, strconv.Itoa(i)))
		wantTable(t, c, asked(20, i+1))
	}
	for i := range 10 {
		wantSend(t, c, 20, "more", 0, api.ErrFull)
		wantSend(t, c, 20, "", 0, api.ErrLimit)
		wantLost(t, c, i+1)
	}
	wantTable(t, c, asked(20, api.MaxPending))
	wantSend(t, c, 21, "other", 0, api.OK, asks(21))
	wantTake(t, c, answered(9, 20), 0, api.OK, want...)
	wantTable(t, c, known(20, 9), asked(21, 1))
	for range 10 {
		wantSend(t, c, 20, "now", 0, api.OK, carries(9, "now"))
	}
	wantLost(t, c, 10)
}

// filled is a cache with MaxArp neighbours that are asked for.
func filled(t *testing.T) *arp.Cache {
	t.Helper()
	c := made(t)
	for i := range uint32(api.MaxArp) {
		wantSend(t, c, 100+i, "x", 0, api.OK, asks(100+i))
	}
	return c
}

// P9.2: none is known, so there is no room: the body is lost, and nobody is asked for.
func TestNoRoom(t *testing.T) {
	c := filled(t)
	table := c.Table()
	wantSend(t, c, 5, "y", 0, api.ErrFull)
	wantSend(t, c, 500, "y", 0, api.ErrFull)
	wantSend(t, c, 500, "", 0, api.ErrLimit)
	wantLost(t, c, 2)
	wantTable(t, c, table...)
	wantSend(t, c, 101, "z", 0, api.OK)
	wantTake(t, c, answered(9, 105), 1, api.OK, carries(9, "x"))
	wantSend(t, c, 500, "y", 2, api.OK, asks(500))
	table[1].Pending = 2
	want := append(slices.Delete(table, 5, 6), asked(500, 1))
	wantTable(t, c, want...)
	wantSend(t, c, 501, "y", 2, api.ErrFull)
	wantSend(t, c, 105, "y", 2, api.ErrFull)
	wantLost(t, c, 4)
}

// P9.3: who is asked for without room is not learned, but answered; a neighbour is learned.
func TestTakeWithoutRoom(t *testing.T) {
	c := filled(t)
	table := c.Table()
	wantTake(t, c, answered(9, 5), 0, api.OK)
	wantTake(t, c, api.Arp{Op: 1, FromMac: 9, FromIP: 5, ToIP: own}, 0, api.OK, answers(9, 5))
	wantTable(t, c, table...)
	wantTake(t, c, api.Arp{Op: 1, FromMac: 9, FromIP: 107, ToIP: own}, 0, api.OK, carries(9, "x"), answers(9, 107))
	table[7] = known(107, 9)
	wantTable(t, c, table...)
	wantTake(t, c, answered(8, 5), 0, api.OK)
	wantTable(t, c, append([]api.Neighbour{known(5, 8)}, table[:7]...)...)
	wantLost(t, c, 0)
}

// known8 is a cache with MaxArp known neighbours, told at the ticks that are handed in.
func known8(t *testing.T, ticks [api.MaxArp]int) *arp.Cache {
	t.Helper()
	c := made(t)
	for tick := range 20 {
		for i, at := range ticks {
			if at == tick {
				wantTake(t, c, answered(uint64(i), uint32(100+i)), tick, api.OK)
			}
		}
	}
	return c
}

// P9.2 and P9.3, room: the known one that was told the longest ago is forgotten, of several that with the least address.
func TestRoom(t *testing.T) {
	for _, c := range []struct {
		ticks [api.MaxArp]int
		goes  []int
	}{
		{[api.MaxArp]int{7, 6, 5, 4, 3, 2, 1, 0}, []int{7, 6, 5}},
		{[api.MaxArp]int{0, 1, 2, 3, 4, 5, 6, 7}, []int{0, 1, 2}},
		{[api.MaxArp]int{5, 5, 5, 5, 5, 5, 5, 5}, []int{0, 1, 2}},
		{[api.MaxArp]int{9, 3, 9, 3, 9, 1, 9, 3}, []int{5, 1, 3}},
		{[api.MaxArp]int{2, 2, 2, 2, 1, 2, 2, 1}, []int{4, 7, 0}},
	} {
		x := known8(t, c.ticks)
		want := x.Table()
		gone := func(i int) {
			want = slices.DeleteFunc(want, func(n api.Neighbour) bool { return n.IP == uint32(100+i) })
		}
		wantSend(t, x, 1, "a", 20, api.OK, asks(1))
		gone(c.goes[0])
		wantTable(t, x, append([]api.Neighbour{asked(1, 1)}, want...)...)
		wantTake(t, x, answered(3, 900), 20, api.OK)
		gone(c.goes[1])
		want = append(want, known(900, 3))
		wantTable(t, x, append([]api.Neighbour{asked(1, 1)}, want...)...)
		wantTake(t, x, api.Arp{Op: 1, FromMac: 4, FromIP: 2, ToIP: own}, 20, api.OK, answers(4, 2))
		gone(c.goes[2])
		wantTable(t, x, append([]api.Neighbour{asked(1, 1), known(2, 4)}, want...)...)
		wantLost(t, x, 0)
	}
}

// P9.2 and P9.3, room: one that is told again is not the one that was told the longest ago; a Send to it plays no part.
func TestRoomOfOneThatIsToldAgain(t *testing.T) {
	c := known8(t, [api.MaxArp]int{0, 1, 2, 3, 4, 5, 6, 7})
	wantTake(t, c, api.Arp{FromMac: 77, FromIP: 100}, 20, api.OK)
	wantSend(t, c, 101, "x", 20, api.OK, carries(1, "x"))
	wantSend(t, c, 200, "x", 21, api.OK, asks(200))
	if l := c.Table(); l[0] != known(100, 77) || l[1] != known(102, 2) {
		t.Fatal(l)
	}
}

// P9.3: who is learned: neighbours, whoever they speak to, and others that ask for the cache's own address.
func TestTake(t *testing.T) {
	c := made(t)
	wantTake(t, c, api.Arp{Op: 1, FromMac: 9, FromIP: 20, ToIP: own + 1}, 0, api.OK)
	wantTake(t, c, api.Arp{Op: 2, FromMac: 9, FromIP: 20, ToMac: card, ToIP: own + 1}, 0, api.OK)
	wantTable(t, c)
	wantTake(t, c, api.Arp{Op: 1, FromMac: 9, FromIP: 20, ToIP: own}, 0, api.OK, answers(9, 20))
	wantTable(t, c, known(20, 9))
	wantTake(t, c, api.Arp{Op: 2, FromMac: 8, FromIP: 21, ToIP: own}, 0, api.OK)
	wantTable(t, c, known(20, 9), known(21, 8))
	wantTake(t, c, api.Arp{Op: 1, FromMac: 7, FromIP: 20, ToIP: 99}, 0, api.OK)
	wantTable(t, c, known(20, 7), known(21, 8))
	wantTake(t, c, api.Arp{Op: 2, FromMac: 6, FromIP: 21, ToIP: 99}, 0, api.OK)
	wantTable(t, c, known(20, 7), known(21, 6))
	wantSend(t, c, 22, "x", 0, api.OK, asks(22))
	wantTake(t, c, api.Arp{Op: 1, FromMac: 5, FromIP: 22, ToIP: 99}, 0, api.OK, carries(5, "x"))
	wantTable(t, c, known(20, 7), known(21, 6), known(22, 5))
	wantTake(t, c, api.Arp{Op: 1, FromMac: 4, FromIP: 22, ToMac: math.MaxUint64, ToIP: own}, 0, api.OK, answers(4, 22))
	wantLost(t, c, 0)
}

// P9.3: nothing is asked of Op but whether it is 1.
func TestTakeOfEachOp(t *testing.T) {
	for _, op := range []int{0, 2, 3, -1, 257, 65537, math.MinInt, math.MaxInt} {
		c := made(t)
		wantTake(t, c, api.Arp{Op: op, FromMac: 9, FromIP: 20, ToIP: own}, 0, api.OK)
		wantTable(t, c, known(20, 9))
	}
}

// P9.3: the cache's own address, or one that is no one card's, tells nothing.
func TestTakeRefuses(t *testing.T) {
	c := made(t)
	wantSend(t, c, 20, "x", 0, api.OK, asks(20))
	wantTake(t, c, api.Arp{Op: 1, FromMac: 9, FromIP: own, ToIP: own}, 0, api.ErrAddr)
	wantTake(t, c, api.Arp{Op: 2, FromMac: card, FromIP: own, ToIP: 20}, 0, api.ErrAddr)
	for _, m := range []uint64{1<<48 - 1, 1 << 48, 1<<48 | 9, math.MaxUint64} {
		wantTake(t, c, answered(m, 20), 0, api.ErrAddr)
		wantTake(t, c, api.Arp{Op: 1, FromMac: m, FromIP: 30, ToIP: own}, 0, api.ErrAddr)
	}
	wantTable(t, c, asked(20, 1))
	wantTake(t, c, answered(1<<48-2, 20), 0, api.OK, carries(1<<48-2, "x"))
	wantTake(t, c, answered(0, 30), 0, api.OK)
	wantTable(t, c, known(20, 1<<48-2), known(30, 0))
}

// P9.4, Tick: a known one is forgotten ArpAge ticks behind the last time that it was told.
func TestAge(t *testing.T) {
	c := made(t)
	wantTake(t, c, answered(9, 20), 10, api.OK)
	wantTake(t, c, answered(8, 21), 10, api.OK)
	wantTake(t, c, api.Arp{FromMac: 8, FromIP: 21}, 11, api.OK)
	wantTick(t, c, 10+api.ArpAge-1, api.OK)
	wantTable(t, c, known(20, 9), known(21, 8))
	wantSend(t, c, 20, "x", 10+api.ArpAge, api.OK, carries(9, "x"))
	wantTick(t, c, 10+api.ArpAge, api.OK)
	wantTable(t, c, known(21, 8))
	wantSend(t, c, 20, "x", 10+api.ArpAge, api.OK, asks(20))
	wantTick(t, c, 11+api.ArpAge, api.OK)
	wantTable(t, c, asked(20, 1))
	wantLost(t, c, 0)
}

// P9.4, Tick: one that was asked for is asked for again ArpAgain ticks behind the last question, ArpTries times in all; then what waits is lost.
func TestAskedAgain(t *testing.T) {
	c := made(t)
	wantSend(t, c, 20, "x", 100, api.OK, asks(20))
	wantTick(t, c, 109, api.OK)
	wantSend(t, c, 20, "y", 109, api.OK)
	wantTick(t, c, 110, api.OK, asks(20))
	wantTick(t, c, 110, api.OK)
	wantTick(t, c, 119, api.OK)
	wantTick(t, c, 125, api.OK, asks(20)) // the next one is due by when it was asked, not by when it was due
	wantTick(t, c, 134, api.OK)
	wantSend(t, c, 20, "z", 134, api.OK)
	wantTable(t, c, asked(20, 3))
	wantLost(t, c, 0)
	wantTick(t, c, 135, api.OK)
	wantTable(t, c)
	wantLost(t, c, 3)
	wantSend(t, c, 20, "new", 136, api.OK, asks(20))
	wantTick(t, c, 146, api.OK, asks(20))
	wantTake(t, c, answered(9, 20), 147, api.OK, carries(9, "new"))
	wantLost(t, c, 3)
}

// P9.4, Tick: one that was forgotten when known is asked for as a new one.
func TestAskedForAgainOnceForgotten(t *testing.T) {
	c := made(t)
	wantSend(t, c, 20, "a", 0, api.OK, asks(20))
	wantTick(t, c, 10, api.OK, asks(20))
	wantTick(t, c, 20, api.OK, asks(20))
	wantTake(t, c, answered(9, 20), 21, api.OK, carries(9, "a"))
	wantTick(t, c, 621, api.OK)
	wantTable(t, c)
	wantSend(t, c, 20, "b", 621, api.OK, asks(20))
	wantTick(t, c, 631, api.OK, asks(20))
	wantTick(t, c, 641, api.OK, asks(20))
	wantTick(t, c, 651, api.OK)
	wantLost(t, c, 1)
}

// P9.4, Tick: neighbour by neighbour, by rising addresses; however long ago the last call was, one step each.
func TestTickInOrder(t *testing.T) {
	c := made(t)
	for _, ip := range []uint32{0xff000000, 7, 0x80000000, 0} {
		wantSend(t, c, ip, "x", 0, api.OK, asks(ip))
	}
	wantTake(t, c, answered(9, 8), 0, api.OK)
	wantTick(t, c, api.MaxTick, api.OK, asks(0), asks(7), asks(0x80000000), asks(0xff000000))
	wantTable(t, c, asked(0, 1), asked(7, 1), asked(0x80000000, 1), asked(0xff000000, 1))
}

// P9.2: the cache's own address is asked for as others are, as nothing else is said of it.
func TestSendToOneself(t *testing.T) {
	c := made(t)
	wantSend(t, c, own, "x", 0, api.OK, asks(own))
	wantTake(t, c, answered(card, own), 1, api.ErrAddr)
	wantTable(t, c, asked(own, 1))
}

// near is a neighbour of the model.
type near struct {
	api.Neighbour
	tick, tries int
	waits       [][]byte
}

// model is a cache as the chapter's words tell it: a list that is kept in order.
type model struct {
	list []near
	tick int
	lost int
}

func (m *model) fork() *model {
	other := *m
	other.list = slices.Clone(m.list)
	for i := range other.list {
		other.list[i].waits = slices.Clone(m.list[i].waits)
	}
	return &other
}

func (m *model) find(ip uint32) *near {
	for i := range m.list {
		if m.list[i].IP == ip {
			return &m.list[i]
		}
	}
	return nil
}

func (m *model) add(n near) {
	m.list = append(m.list, n)
	slices.SortFunc(m.list, func(a, b near) int {
		if a.IP < b.IP {
			return -1
		}
		return 1
	})
}

func (m *model) room() bool {
	if len(m.list) < 8 {
		return true
	}
	at := -1
	for i, n := range m.list {
		if n.Known && (at < 0 || n.tick < m.list[at].tick) {
			at = i
		}
	}
	if at >= 0 {
		m.list = slices.Delete(m.list, at, at+1)
	}
	return at >= 0
}

func (m *model) send(to uint32, body []byte, now int) ([][]byte, api.Errno) {
	if now < m.tick {
		return nil, api.ErrTick
	}
	if len(body) < 1 || len(body) > 1500 {
		return nil, api.ErrLimit
	}
	n := m.find(to)
	if n != nil && n.Known {
		m.tick = now
		return [][]byte{carries(n.Mac, string(body))}, api.OK
	}
	if n != nil && len(n.waits) == 4 || n == nil && !m.room() {
		m.lost++
		return nil, api.ErrFull
	}
	m.tick = now
	if n != nil {
		n.waits = append(n.waits, body)
		return nil, api.OK
	}
	m.add(near{api.Neighbour{IP: to}, now, 1, [][]byte{body}})
	return [][]byte{asks(to)}, api.OK
}

func (m *model) take(a api.Arp, now int) ([][]byte, api.Errno) {
	if now < m.tick {
		return nil, api.ErrTick
	}
	if a.FromIP == own || a.FromMac >= 1<<48-1 {
		return nil, api.ErrAddr
	}
	m.tick = now
	var out [][]byte
	if m.find(a.FromIP) == nil && a.ToIP == own && m.room() {
		m.add(near{Neighbour: api.Neighbour{IP: a.FromIP}})
	}
	if n := m.find(a.FromIP); n != nil {
		for _, b := range n.waits {
			out = append(out, carries(a.FromMac, string(b)))
		}
		*n = near{api.Neighbour{IP: a.FromIP, Mac: a.FromMac, Known: true}, now, 0, nil}
	}
	if a.Op == 1 && a.ToIP == own {
		out = append(out, answers(a.FromMac, a.FromIP))
	}
	return out, api.OK
}

func (m *model) pass(now int) ([][]byte, api.Errno) {
	if now < m.tick {
		return nil, api.ErrTick
	}
	m.tick = now
	var out [][]byte
	var left []near
	for _, n := range m.list {
		switch {
		case n.Known && now-n.tick >= 600:
			continue
		case !n.Known && now-n.tick >= 10 && n.tries < 3:
			n.tries++
			n.tick = now
			out = append(out, asks(n.IP))
		case !n.Known && now-n.tick >= 10:
			m.lost += len(n.waits)
			continue
		}
		left = append(left, n)
	}
	m.list = left
	return out, api.OK
}

func (m *model) table() []api.Neighbour {
	var out []api.Neighbour
	for _, n := range m.list {
		n.Neighbour.Pending = len(n.waits)
		out = append(out, n.Neighbour)
	}
	return out
}

// drawArp is a question or an answer, of few addresses, now and then of one that may not be.
func drawArp(draw func() uint64) api.Arp {
	a := api.Arp{Op: int(draw() % 3), FromMac: draw() % 4, FromIP: uint32(draw() % 14), ToIP: own}
	switch draw() % 12 {
	case 0:
		a.FromIP = own
	case 1:
		a.FromMac = 1<<48 - 1 - draw()%2
	case 2, 3, 4:
		a.ToIP = uint32(draw() % 3)
	}
	return a
}

// drawTick is a tick: often that of now, mostly a little later, at times much later, or ahead.
func drawTick(draw func() uint64, now int) int {
	switch kind := draw() % 40; {
	case kind == 0:
		return now + int(draw()%700)
	case kind == 1:
		return max(0, now-int(draw()%3))
	case kind < 20:
		return now + int(draw()%4)
	}
	return now
}

// step does one thing to a cache and to its model.
func step(t *testing.T, c *arp.Cache, m *model, draw func() uint64) {
	t.Helper()
	now := drawTick(draw, m.tick)
	switch kind := draw() % 8; {
	case kind < 4:
		body := []byte(strconv.Itoa(int(draw() % 100000)))
		if draw()%30 == 0 {
			body = make([]byte, []int{0, 1500, 1501}[draw()%3])
		}
		to := uint32(draw() % 14)
		want, wantErr := m.send(to, body, now)
		wantSend(t, c, to, string(body), now, wantErr, want...)
	case kind < 6:
		a := drawArp(draw)
		want, wantErr := m.take(a, now)
		wantTake(t, c, a, now, wantErr, want...)
	default:
		want, wantErr := m.pass(now)
		wantTick(t, c, now, wantErr, want...)
	}
	wantSame(t, c, m)
}

func wantSame(t *testing.T, c *arp.Cache, m *model) {
	t.Helper()
	wantTable(t, c, m.table()...)
	wantLost(t, c, m.lost)
}

// P9.1 to P9.4: rows of calls against the model.
func TestAgainstModel(t *testing.T) {
	draw := draws(91)
	for range 300 {
		c, m := made(t), &model{}
		for range 200 {
			step(t, c, m, draw)
		}
	}
}

// P4 and P9.4, Fork: one that is alike; of the two each goes on alone.
func TestFork(t *testing.T) {
	draw := draws(94)
	for range 100 {
		c, m := made(t), &model{}
		for range int(draw() % 80) {
			step(t, c, m, draw)
		}
		f, k := c.Fork(), m.fork()
		if f == c {
			t.Fatal("a Fork is the cache itself")
		}
		for range 20 {
			step(t, c, m, draw)
			wantSame(t, f, k)
		}
		for range 60 {
			step(t, f, k, draw)
			step(t, c, m, draw)
			wantSame(t, f, k)
			wantSame(t, c, m)
		}
	}
}

// P4, Fork: bodies that wait for one neighbour are laid behind those of each alone.
func TestForkOfBodiesThatWait(t *testing.T) {
	for n := 1; n < api.MaxPending; n++ {
		c := made(t)
		var c9, f9 [][]byte
		for i := range n {
			c.Send(20, []byte(strconv.Itoa(i)), 0)
			c9 = append(c9, carries(9, strconv.Itoa(i)))
		}
		f := c.Fork()
		wantSend(t, c, 20, "the cache's", 0, api.OK)
		wantSend(t, f, 20, "the other's", 0, api.OK)
		f9 = append(slices.Clone(c9), carries(9, "the other's"))
		c9 = append(c9, carries(9, "the cache's"))
		wantTake(t, c, answered(9, 20), 0, api.OK, c9...)
		wantTake(t, f, answered(9, 20), 0, api.OK, f9...)
	}
}

// sent is what becomes of a body: how often it was told, and of which address.
type sent struct {
	to    uint32
	times int
}

// ledger is all bodies that were sent, each with a number of its own.
type ledger struct {
	all  []sent
	last map[uint32]int // the last one that was told, by address
}

// note counts the bodies that are told, and holds their order for each address.
func (l *ledger) note(t *testing.T, frames [][]byte) {
	t.Helper()
	for _, f := range frames {
		if binary.BigEndian.Uint16(f[12:]) != api.KindIP {
			continue
		}
		i, _ := strconv.Atoi(string(f[14:]))
		to := l.all[i].to
		if binary.BigEndian.Uint64(append([]byte{0, 0}, f[:6]...)) != uint64(to) {
			t.Fatalf("body %d for %d was told in % x", i, to, f)
		}
		if before, is := l.last[to]; is && before >= i {
			t.Fatalf("%d: body %d was told behind body %d", to, i, before)
		}
		l.last[to] = i
		l.all[i].times++
	}
}

// P9.5 and P9.6: neighbours and bodies stay within their limits; each body is told once, or waits, or is lost; those for one address are told in their order.
func TestEachBodyOnce(t *testing.T) {
	draw := draws(95)
	for range 100 {
		c, l, now := made(t), &ledger{last: map[uint32]int{}}, 0
		for range 300 {
			now = max(now, drawTick(draw, now))
			var frames [][]byte
			switch ip := uint32(draw() % 12); draw() % 4 {
			case 0, 1:
				l.all = append(l.all, sent{ip, 0})
				frames, _ = c.Send(ip, []byte(strconv.Itoa(len(l.all)-1)), now)
			case 2:
				frames, _ = c.Take(answered(uint64(ip), ip), now)
			default:
				frames, _ = c.Tick(now)
			}
			l.note(t, frames)
			once, waits := 0, 0
			for _, s := range l.all {
				if s.times > 1 {
					t.Fatal("a body was told twice")
				}
				once += s.times
			}
			table := c.Table()
			for _, n := range table {
				waits += n.Pending
				if n.Pending > api.MaxPending {
					t.Fatalf("%d bodies wait", n.Pending)
				}
			}
			if len(table) > api.MaxArp || once+waits+c.Lost() != len(l.all) {
				t.Fatalf("%d neighbours; %d bodies: %d told, %d wait, %d lost", len(table), len(l.all), once, waits, c.Lost())
			}
		}
	}
}

// scribble writes over a list and the spare room behind it.
func scribble(b []byte) {
	b = b[:cap(b)]
	for i := range b {
		b[i] ^= 0x5a
	}
}

// P3: a body is neither changed nor kept, spare room behind it neither.
func TestBodiesAreNotKept(t *testing.T) {
	c := made(t)
	whole := []byte("abcdef")
	for range 2 {
		if _, e := c.Send(20, whole[1:3], 0); e != api.OK {
			t.Fatal(e)
		}
	}
	if string(whole) != "abcdef" {
		t.Fatalf("changed: %q", whole)
	}
	scribble(whole)
	wantTake(t, c, answered(9, 20), 0, api.OK, carries(9, "bc"), carries(9, "bc"))
	copy(whole, "abcdef")
	f, _ := c.Send(20, whole[:2], 0)
	scribble(f[0])
	if string(whole) != "abcdef" {
		t.Fatalf("shared: %q", whole)
	}
}

// P3: what is answered is new memory: neither the cache, nor its Fork, nor another frame has it.
func TestFramesAreNotKept(t *testing.T) {
	c := made(t)
	f, _ := c.Send(20, []byte("a"), 0)
	scribble(f[0])
	c.Send(20, []byte("b"), 0)
	f, _ = c.Tick(10)
	scribble(f[0])
	wantTick(t, c, 20, api.OK, asks(20))
	other := c.Fork()
	f, _ = c.Take(api.Arp{Op: 1, FromMac: 9, FromIP: 20, ToIP: own}, 20)
	if len(f) != 3 {
		t.Fatal(f)
	}
	scribble(f[0])
	scribble(f[2])
	if !bytes.Equal(f[1], carries(9, "b")) {
		t.Fatalf("two frames share memory: % x", f[1])
	}
	wantTake(t, other, answered(9, 20), 20, api.OK, carries(9, "a"), carries(9, "b"))
	l := c.Table()
	l[0] = api.Neighbour{}
	wantTable(t, c, known(20, 9))
}

// P6: of two caches the one changes nothing of the other one.
func TestTwoCaches(t *testing.T) {
	a, b := made(t), made(t)
	wantSend(t, a, 20, "x", 9, api.OK, asks(20))
	wantTable(t, b)
	wantTick(t, b, 0, api.OK)
	wantSend(t, b, 20, "y", 0, api.OK, asks(20))
	wantTake(t, a, answered(7, 20), 9, api.OK, carries(7, "x"))
	wantTake(t, b, answered(7, 20), 9, api.OK, carries(7, "y"))
}
