package outq_test

import (
	"bytes"
	"fmt"
	"math"
	"slices"
	"testing"

	"trunkline/api"
	"trunkline/chunk"
	"trunkline/outq"
)

// plenty is more than ever is asked for.
const plenty = math.MaxInt

// draws is a row of numbers that look like chance and are the same each time.
func draws(seed uint64) func() uint64 {
	return func() uint64 {
		seed += 0x9e3779b97f4a7c15
		z := (seed ^ seed>>30) * 0xbf58476d1ce4e5b9
		z = (z ^ z>>27) * 0x94d049bb133111eb
		return z ^ z>>31
	}
}

func drawBytes(draw func() uint64, n int) []byte {
	b := make([]byte, n)
	for i := range b {
		b[i] = byte(draw())
	}
	return b
}

// brief is the beginning of what x is.
func brief(x any) string {
	s := fmt.Sprintf("%+v", x)
	return s[:min(300, len(s))]
}

// same: are two Data chunks the same, and is nothing set that such a chunk has not?
func same(a, b api.Chunk) bool {
	bare := func(c api.Chunk) bool {
		return c.Tag == 0 && c.Room == 0 && c.Outs == 0 && c.Ins == 0 && len(c.Blocks)+len(c.Dups)+len(c.Params) == 0
	}
	return bare(a) && bare(b) && a.Type == b.Type && a.Flags == b.Flags && a.TSN == b.TSN && a.Stream == b.Stream && a.SSN == b.SSN && a.PPID == b.PPID && bytes.Equal(a.Data, b.Data)
}

func msg(data string) api.Msg { return api.Msg{Data: []byte(data)} }

func piece(tsn uint32, flags uint8, ssn uint16, data string) api.Chunk {
	return api.Chunk{Type: api.Data, Flags: flags, TSN: tsn, SSN: ssn, Data: []byte(data)}
}

func make1(t *testing.T, first uint32, outs, size int) *outq.Queue {
	t.Helper()
	q, e := outq.New(first, outs, size)
	if q == nil || e != api.OK {
		t.Fatalf("New(%d, %d, %d): error %d", first, outs, size, e)
	}
	return q
}

func wantPush(t *testing.T, q *outq.Queue, m api.Msg, want api.Errno) {
	t.Helper()
	if e := q.Push(m); e != want {
		t.Fatalf("Push(%s): error %d; want %d", brief(m), e, want)
	}
}

func wantSend(t *testing.T, q *outq.Queue, way, room, most int, want ...api.Chunk) {
	t.Helper()
	if l, e := q.Send(way, room, most); e != api.OK || !slices.EqualFunc(l, want, same) {
		t.Fatalf("Send(%d, %d, %d): %s, error %d; want %s", way, room, most, brief(l), e, brief(want))
	}
}

// wantSent asks for the TSNs of what is sent alone.
func wantSent(t *testing.T, q *outq.Queue, way, room, most int, want ...uint32) {
	t.Helper()
	l, e := q.Send(way, room, most)
	var got []uint32
	for _, c := range l {
		got = append(got, c.TSN)
	}
	if e != api.OK || !slices.Equal(got, want) {
		t.Fatalf("Send(%d, %d, %d): %v, error %d; want %v", way, room, most, got, e, want)
	}
}

func wantSendErr(t *testing.T, q *outq.Queue, way, room, most int, want api.Errno) {
	t.Helper()
	if l, e := q.Send(way, room, most); e != want || len(l) > 0 {
		t.Fatalf("Send(%d, %d, %d): %s, error %d; want error %d", way, room, most, brief(l), e, want)
	}
}

func sack(tsn uint32, blocks ...[2]uint16) api.Chunk {
	return api.Chunk{Type: api.Sack, TSN: tsn, Blocks: blocks}
}

func wantSack(t *testing.T, q *outq.Queue, c api.Chunk, want api.Acked) {
	t.Helper()
	if a, e := q.Sack(c); e != api.OK || a != want {
		t.Fatalf("Sack(%s): %+v, error %d; want %+v", brief(c), a, e, want)
	}
}

func wantSackErr(t *testing.T, q *outq.Queue, c api.Chunk, want api.Errno) {
	t.Helper()
	if a, e := q.Sack(c); e != want || a != (api.Acked{}) {
		t.Fatalf("Sack(%s): %+v, error %d; want error %d", brief(c), a, e, want)
	}
}

func wantExpire(t *testing.T, q *outq.Queue, way, want int, wantErr api.Errno) {
	t.Helper()
	if n, e := q.Expire(way); n != want || e != wantErr {
		t.Fatalf("Expire(%d): %d, error %d; want %d, error %d", way, n, e, want, wantErr)
	}
}

func wantFlight(t *testing.T, q *outq.Queue, first, second int) {
	t.Helper()
	if a, b := q.Flight(0), q.Flight(1); a != first || b != second {
		t.Fatalf("Flight: %d, %d; want %d, %d", a, b, first, second)
	}
}

func wantLeft(t *testing.T, q *outq.Queue, pieces, size int) {
	t.Helper()
	if n, b := q.Left(); n != pieces || b != size {
		t.Fatalf("Left: %d, %d; want %d, %d", n, b, pieces, size)
	}
}

func wantCum(t *testing.T, q *outq.Queue, want uint32) {
	t.Helper()
	if got := q.Cum(); got != want {
		t.Fatalf("Cum: %d; want %d", got, want)
	}
}

// flown is a queue from the TSN 1 on, with so many pieces of one byte, which fly on way 0.
func flown(t *testing.T, n int) *outq.Queue {
	t.Helper()
	q := make1(t, 1, 1, 1)
	for range n {
		wantPush(t, q, msg("x"), api.OK)
	}
	for q.Flight(0) < n {
		if _, e := q.Send(0, plenty, plenty); e != api.OK {
			t.Fatalf("error %d", e)
		}
	}
	return q
}

// P1 and P14.1 to P14.4: what nil answers, whatever else is wrong.
func TestNil(t *testing.T) {
	var q *outq.Queue
	for _, m := range []api.Msg{{}, msg("x"), {Stream: 99}, {Data: make([]byte, 5000)}} {
		wantPush(t, q, m, api.ErrNil)
	}
	for _, c := range []api.Chunk{{}, sack(0), {Type: api.Sack, Tag: 1}, {Type: api.Init}} {
		wantSackErr(t, q, c, api.ErrNil)
	}
	for _, way := range []int{0, 1, -1, 2, math.MaxInt, math.MinInt} {
		wantSendErr(t, q, way, -1, 5, api.ErrNil)
		wantSendErr(t, q, way, 5, 5, api.ErrNil)
		wantExpire(t, q, way, 0, api.ErrNil)
		if q.Flight(way) != 0 {
			t.Errorf("Flight(%d) of nil", way)
		}
	}
	wantLeft(t, q, 0, 0)
	wantCum(t, q, 0)
	if q.Fork() != nil {
		t.Error("a Fork of nil")
	}
}

// P1: a queue that no call made does not panic.
func TestMadeByNobody(t *testing.T) {
	q := new(outq.Queue)
	q.Push(msg("x"))
	q.Send(0, 5, 500)
	q.Sack(sack(0))
	q.Expire(0)
	q.Flight(0)
	q.Left()
	q.Fork()
}

// P14.1: from 1 to MaxStreams streams, pieces from 1 to MaxSctp - 28 bytes, any first TSN.
func TestNew(t *testing.T) {
	for _, outs := range []int{0, -1, 9, math.MaxInt, math.MinInt, 1<<32 + 1} {
		if q, e := outq.New(1, outs, 4); q != nil || e != api.ErrArg {
			t.Errorf("%d streams: %v, error %d", outs, q, e)
		}
	}
	for _, size := range []int{0, -1, 1453, math.MaxInt, math.MinInt, 1<<32 + 1} {
		if q, e := outq.New(1, 1, size); q != nil || e != api.ErrArg {
			t.Errorf("pieces of %d bytes: %v, error %d", size, q, e)
		}
	}
	for _, first := range []uint32{0, 1, 7, 1 << 31, math.MaxUint32} {
		for outs := 1; outs <= api.MaxStreams; outs++ {
			for _, size := range []int{1, 2, 1451, 1452} {
				q := make1(t, first, outs, size)
				wantCum(t, q, first-1)
				wantLeft(t, q, 0, 0)
				wantFlight(t, q, 0, 0)
				wantSend(t, q, 0, plenty, plenty)
			}
		}
	}
}

// Example 1 of the chapter, and where the edges of pieces lie.
func TestCut(t *testing.T) {
	q := make1(t, 7, 1, 4)
	wantPush(t, q, msg("123456789"), api.OK)
	wantSend(t, q, 0, plenty, plenty, piece(7, 2, 0, "1234"), piece(8, 0, 0, "5678"), piece(9, 1, 0, "9"))
	wantPush(t, q, msg("12345678"), api.OK)
	wantPush(t, q, msg("1234"), api.OK)
	wantPush(t, q, msg("1"), api.OK)
	wantPush(t, q, msg("12345"), api.OK)
	wantLeft(t, q, 9, 27)
	wantSend(t, q, 1, plenty, plenty, piece(10, 2, 1, "1234"), piece(11, 1, 1, "5678"), piece(12, 3, 2, "1234"), piece(13, 3, 3, "1"), piece(14, 2, 4, "1234"), piece(15, 1, 4, "5"))
}

// P14.1: the greatest pieces go into a packet.
func TestGreatestPieces(t *testing.T) {
	q := make1(t, 0, 1, 1452)
	data := drawBytes(draws(14), 4096)
	wantPush(t, q, api.Msg{Data: data}, api.OK)
	l, e := q.Send(0, plenty, 1468)
	if e != api.OK || len(l) != 1 || !bytes.Equal(l[0].Data, data[:1452]) {
		t.Fatalf("%d pieces, error %d", len(l), e)
	}
	if b, e := chunk.Put(api.Head{}, l); e != api.OK || len(b) != api.MaxSctp {
		t.Errorf("a packet of %d bytes, error %d", len(b), e)
	}
	wantSent(t, q, 0, plenty, 1467)
	wantSent(t, q, 0, plenty, 1468+1208, 1, 2)
}

// P14.1: each stream has SSNs of its own; those that are free have none, and their own SSN counts for nothing.
func TestNumbers(t *testing.T) {
	q := make1(t, math.MaxUint32-1, 8, 2)
	push := func(stream, ssn uint16, ppid uint32, free bool, data string) {
		wantPush(t, q, api.Msg{Stream: stream, SSN: ssn, PPID: ppid, Free: free, Data: []byte(data)}, api.OK)
	}
	push(3, 77, 1, false, "abc")
	push(7, 5, 2, false, "d")
	push(3, 0, math.MaxUint32, true, "efg")
	push(3, 77, 3, false, "h")
	push(7, 0, 4, true, "i")
	want := func(tsn uint32, flags uint8, stream, ssn uint16, ppid uint32, data string) api.Chunk {
		return api.Chunk{Flags: flags, TSN: tsn, Stream: stream, SSN: ssn, PPID: ppid, Data: []byte(data)}
	}
	wantSend(t, q, 0, plenty, plenty,
		want(math.MaxUint32-1, 2, 3, 0, 1, "ab"), want(math.MaxUint32, 1, 3, 0, 1, "c"),
		want(0, 3, 7, 0, 2, "d"),
		want(1, 6, 3, 0, math.MaxUint32, "ef"), want(2, 5, 3, 0, math.MaxUint32, "g"),
		want(3, 3, 3, 1, 3, "h"),
		want(4, 7, 7, 0, 4, "i"))
}

// P14.1: SSNs go round, modulo 2^16.
func TestSSNsGoRound(t *testing.T) {
	q := make1(t, 1, 2, 4)
	for n := range 1<<16 + 2 {
		wantPush(t, q, msg("x"), api.OK)
		wantSend(t, q, 0, plenty, plenty, piece(uint32(n+1), 3, uint16(n), "x"))
		wantSack(t, q, sack(uint32(n+1)), api.Acked{Bytes: [2]int{1, 0}, Moved: true})
	}
	wantPush(t, q, api.Msg{Stream: 1, Data: []byte("x")}, api.OK)
	wantSend(t, q, 0, plenty, plenty, api.Chunk{Flags: 3, TSN: 1<<16 + 3, Stream: 1, Data: []byte("x")})
}

// P14.1 and P2: which error comes first, and that what is refused leaves the SSN and the TSNs.
func TestPushErrors(t *testing.T) {
	q := make1(t, 1, 2, 1452)
	long := make([]byte, api.MaxMsg+1)
	for _, stream := range []uint16{2, 3, 8, math.MaxUint16} {
		for _, data := range [][]byte{nil, {}, {1}, long} {
			wantPush(t, q, api.Msg{Stream: stream, Data: data}, api.ErrStream)
		}
	}
	for _, free := range []bool{false, true} {
		for _, data := range [][]byte{nil, {}, long} {
			wantPush(t, q, api.Msg{Stream: 1, Free: free, Data: data}, api.ErrLimit)
		}
	}
	wantLeft(t, q, 0, 0)
	wantPush(t, q, api.Msg{Data: long[1:]}, api.OK)
	wantPush(t, q, api.Msg{Data: long[2:]}, api.OK)
	wantPush(t, q, api.Msg{Stream: 2, Data: long[1:]}, api.ErrStream)
	wantPush(t, q, api.Msg{Data: long}, api.ErrLimit)
	wantPush(t, q, msg("12"), api.ErrFull)
	wantPush(t, q, api.Msg{Data: long[1:], Free: true}, api.ErrFull)
	wantLeft(t, q, 6, 8191)
	wantPush(t, q, msg("1"), api.OK)
	wantLeft(t, q, 7, 8192)
	wantPush(t, q, msg("1"), api.ErrFull)
	wantPush(t, q, msg(""), api.ErrLimit)
	wantSent(t, q, 0, plenty, plenty, 1, 2, 3, 4, 5, 6, 7)
	wantPush(t, q, msg("1"), api.ErrFull) // what flies counts
	wantExpire(t, q, 0, 7, api.OK)
	wantPush(t, q, msg("1"), api.ErrFull) // and what is to be sent again
	wantSack(t, q, sack(0, [2]uint16{2, 7}), api.Acked{})
	wantPush(t, q, msg("1"), api.ErrFull) // and what was taken
	wantSack(t, q, sack(1), api.Acked{Moved: true})
	wantLeft(t, q, 6, 8192-1452)
	wantPush(t, q, api.Msg{Data: long[:1453]}, api.ErrFull)
	wantPush(t, q, api.Msg{Data: long[:1452]}, api.OK)
	l, e := q.Send(0, plenty, plenty)
	if e != api.OK || l[len(l)-1].TSN != 8 || l[len(l)-1].SSN != 3 {
		t.Fatalf("%s, error %d", brief(l), e)
	}
}

// P14.2: which arguments are none.
func TestSendErrors(t *testing.T) {
	q := make1(t, 1, 1, 4)
	wantPush(t, q, msg("x"), api.OK)
	for _, way := range []int{-1, 2, 3, math.MaxInt, math.MinInt, 1 << 32} {
		wantSendErr(t, q, way, plenty, plenty, api.ErrArg)
		wantExpire(t, q, way, 0, api.ErrArg)
		if q.Flight(way) != 0 {
			t.Errorf("Flight(%d)", way)
		}
	}
	for _, n := range []int{-1, math.MinInt} {
		wantSendErr(t, q, 0, n, plenty, api.ErrArg)
		wantSendErr(t, q, 1, plenty, n, api.ErrArg)
	}
	wantFlight(t, q, 0, 0)
	wantSend(t, q, 0, 0, 0)
	wantSend(t, q, 0, 0, 20, piece(1, 3, 0, "x"))
	wantFlight(t, q, 1, 0)
	for _, way := range []int{-1, 2, math.MaxInt, math.MinInt} {
		wantExpire(t, q, way, 0, api.ErrArg)
		if q.Flight(way) != 0 {
			t.Errorf("Flight(%d) while one flies", way)
		}
	}
}

// P14.2: by chunk.Size all that go are at most most; behind the first one that may not go none goes.
func TestMost(t *testing.T) {
	for most, want := range map[int]int{0: 0, 19: 0, 20: 1, 43: 1, 44: 2, 63: 2, 64: 3, 1 << 20: 3} {
		q := make1(t, 1, 1, 5)
		wantPush(t, q, msg("1"), api.OK)
		wantPush(t, q, msg("12345"), api.OK) // 24 bytes, with padding
		wantPush(t, q, msg("1"), api.OK)
		wantSent(t, q, 0, plenty, most, []uint32{1, 2, 3}[:want]...)
	}
}

// P14.2: at most MaxPieces go at once, be they fresh or not.
func TestSeventeenth(t *testing.T) {
	q := make1(t, 1, 1, 1)
	for range 50 {
		wantPush(t, q, msg("x"), api.OK)
	}
	var want []uint32
	for n := range uint32(16) {
		want = append(want, n+1)
	}
	wantSent(t, q, 0, plenty, plenty, want...)
	wantExpire(t, q, 0, 16, api.OK)
	wantSent(t, q, 0, plenty, plenty, want...)
	wantExpire(t, q, 0, 16, api.OK)
	wantSack(t, q, sack(4), api.Acked{Moved: true})
	wantSent(t, q, 1, plenty, plenty, 5, 6, 7, 8, 9, 10, 11, 12, 13, 14, 15, 16, 17, 18, 19, 20)
	wantSent(t, q, 1, plenty, plenty, 21, 22, 23, 24, 25, 26, 27, 28, 29, 30, 31, 32, 33, 34, 35, 36)
	wantFlight(t, q, 0, 32)
}

// P14.2: fresh ones go as far as there is room, on all ways together; one goes always, if none flies.
func TestRoom(t *testing.T) {
	for room, want := range map[int]int{0: 1, 1: 1, 3: 1, 4: 1, 7: 1, 8: 2, 11: 2, 12: 3, 13: 3} {
		q := make1(t, 1, 1, 4)
		wantPush(t, q, msg("123456789abc"), api.OK)
		wantSent(t, q, 0, room, plenty, []uint32{1, 2, 3}[:want]...)
		wantSent(t, q, 1, room, plenty) // what flies on the other way counts
	}
	q := make1(t, 1, 1, 4)
	wantPush(t, q, msg("123456789abcdefghijk"), api.OK)
	wantSent(t, q, 0, 0, plenty, 1)
	wantSent(t, q, 1, 8, plenty, 2)
	wantFlight(t, q, 4, 4)
	wantSent(t, q, 1, 11, plenty)
	wantSent(t, q, 0, 12, plenty, 3)
	wantExpire(t, q, 0, 2, api.OK)
	wantFlight(t, q, 0, 4)
	wantSent(t, q, 0, 0, plenty, 1, 3) // room is asked for fresh ones alone
	wantSack(t, q, sack(3), api.Acked{Bytes: [2]int{8, 4}, Moved: true})
	wantSent(t, q, 0, 0, plenty, 4)
	wantExpire(t, q, 0, 1, api.OK)
	wantSent(t, q, 0, 7, plenty, 4) // the one that goes again flies by then
	wantSack(t, q, sack(3), api.Acked{})
	wantSent(t, q, 0, 8, plenty, 5)
}

// P14.2: room that is taken by pieces that are to be sent again, or were taken, is free: they do not fly.
func TestRoomOfOthers(t *testing.T) {
	q := make1(t, 1, 1, 4)
	wantPush(t, q, msg("123456789abcdefg"), api.OK)
	wantSent(t, q, 0, 12, plenty, 1, 2, 3)
	wantSack(t, q, sack(0, [2]uint16{2, 3}), api.Acked{Bytes: [2]int{8, 0}})
	wantFlight(t, q, 4, 0)
	wantSent(t, q, 1, 7, plenty)
	wantSent(t, q, 1, 8, plenty, 4)
}

// P14.2: those that are to be sent again go ahead of fresh ones, and stop them.
func TestAgainFirst(t *testing.T) {
	q := make1(t, 1, 1, 8)
	for _, data := range []string{"1", "22222222", "3", "4", "5"} {
		wantPush(t, q, msg(data), api.OK)
	}
	wantSent(t, q, 0, plenty, 63, 1, 2)
	wantSent(t, q, 1, plenty, 20, 3)
	wantExpire(t, q, 0, 2, api.OK)
	wantSent(t, q, 0, plenty, 19)
	wantSent(t, q, 1, plenty, 20, 1)
	wantSent(t, q, 1, plenty, 23) // the second one has 24 bytes: no fresh one goes in its place
	wantFlight(t, q, 0, 2)
	wantSent(t, q, 0, plenty, 44, 2, 4)
	wantExpire(t, q, 1, 2, api.OK)
	wantSend(t, q, 0, plenty, plenty, piece(1, 3, 0, "1"), piece(3, 3, 2, "3"), piece(5, 3, 4, "5"))
	wantFlight(t, q, 12, 0)
}

// P14.4: what expires is what flies on that way.
func TestExpire(t *testing.T) {
	q := make1(t, 1, 1, 4)
	wantExpire(t, q, 0, 0, api.OK)
	wantPush(t, q, msg("123456789abcdefghijklmn"), api.OK)
	wantExpire(t, q, 0, 0, api.OK)
	wantSent(t, q, 0, 8, plenty, 1, 2)
	wantSent(t, q, 1, 16, plenty, 3, 4)
	wantSack(t, q, sack(0, [2]uint16{2, 2}, [2]uint16{4, 4}), api.Acked{Bytes: [2]int{4, 4}})
	wantExpire(t, q, 0, 1, api.OK)
	wantFlight(t, q, 0, 4)
	wantExpire(t, q, 0, 0, api.OK)
	wantExpire(t, q, 1, 1, api.OK)
	wantFlight(t, q, 0, 0)
	wantLeft(t, q, 6, 23)
	wantSent(t, q, 1, 0, plenty, 1, 3)
	wantExpire(t, q, 1, 2, api.OK)
}

// P14.3 and P2: which error comes first, and that none of them changes anything.
func TestSackErrors(t *testing.T) {
	q := make1(t, 11, 1, 4)
	wantPush(t, q, msg("123456789abcdefghijklmn"), api.OK)
	wantSent(t, q, 0, 20, plenty, 11, 12, 13, 14, 15)
	wantSack(t, q, sack(11, [2]uint16{3, 3}), api.Acked{Bytes: [2]int{8, 0}, Moved: true})
	block := func(first, last uint16) api.Chunk { return sack(11, [2]uint16{first, last}) }
	many := api.Chunk{Type: api.Sack, TSN: 3, Blocks: make([][2]uint16, 17)}
	for _, x := range []struct {
		name string
		c    api.Chunk
		want api.Errno
	}{
		{"a field of others, ahead of a stale TSN", api.Chunk{Type: api.Sack, TSN: 3, SSN: 1}, api.ErrArg},
		{"Data without a byte", api.Chunk{}, api.ErrArg},
		{"too many blocks, ahead of a stale TSN", many, api.ErrLimit},
		{"too many doubles", api.Chunk{Type: api.Sack, TSN: 11, Dups: make([]uint32, 17)}, api.ErrLimit},
		{"Data", piece(11, 3, 0, "x"), api.ErrType},
		{"a Shutdown", api.Chunk{Type: api.Shutdown, TSN: 11}, api.ErrType},
		{"an unknown type", api.Chunk{Type: 77}, api.ErrType},
		{"the TSN ahead of cum", sack(10), api.ErrStale},
		{"TSN 0", sack(0), api.ErrStale},
		{"half round", sack(11 + 1<<31), api.ErrStale},
		{"stale, with a wrong block", sack(10, [2]uint16{1, 0}), api.ErrStale},
		{"all but half round", sack(10 + 1<<31), api.ErrArg},
		{"one that is fresh", sack(16), api.ErrArg},
		{"one that is not there", sack(17), api.ErrArg},
		{"block 0", block(0, 2), api.ErrArg},
		{"block 1", block(1, 2), api.ErrArg},
		{"block 1 to 1", block(1, 1), api.ErrArg},
		{"an end ahead of the beginning", block(3, 2), api.ErrArg},
		{"an end at 0", block(2, 0), api.ErrArg},
		{"a block beyond the top", block(2, 5), api.ErrArg},
		{"a block all beyond the top", block(5, 5), api.ErrArg},
		{"a block to the end of numbers", block(2, 65535), api.ErrArg},
		{"a block beyond the top behind a good one", sack(11, [2]uint16{2, 3}, [2]uint16{4, 5}), api.ErrArg},
		{"a good one behind a block beyond the top", sack(11, [2]uint16{4, 5}, [2]uint16{2, 3}), api.ErrArg},
		{"a block beyond the top, by its TSN", sack(12, [2]uint16{2, 4}), api.ErrArg},
		{"a block behind the top", sack(15, [2]uint16{2, 2}), api.ErrArg},
	} {
		if a, e := q.Sack(x.c); e != x.want || a != (api.Acked{}) {
			t.Fatalf("%s: %+v, error %d; want error %d", x.name, a, e, x.want)
		}
		wantCum(t, q, 11)
		wantFlight(t, q, 12, 0)
		wantLeft(t, q, 5, 19)
	}
	// Nothing was missed by them but what the first one told: twice more till it is sent again.
	wantSack(t, q, block(2, 3), api.Acked{Bytes: [2]int{4, 0}})
	wantSack(t, q, block(2, 4), api.Acked{Bytes: [2]int{4, 0}, Fast: true})
}

// P14.3: a Sack may have other numbers, doubles, and flags, which count for nothing; its blocks may overlap, and stand in any order.
func TestOddSacks(t *testing.T) {
	q := flown(t, 6)
	c := sack(0, [2]uint16{4, 5}, [2]uint16{2, 4}, [2]uint16{5, 5}, [2]uint16{2, 4})
	c.Flags, c.Room, c.Dups = 255, math.MaxUint32, []uint32{1, 2, 6, 99}
	wantSack(t, q, c, api.Acked{Bytes: [2]int{4, 0}})
	wantFlight(t, q, 2, 0)
	wantSack(t, q, sack(6), api.Acked{Bytes: [2]int{2, 0}, Moved: true})
	wantLeft(t, q, 0, 0)
}

// P14.3: what is gone and was flying counts to its way, not what was taken, or is to be sent again.
func TestGone(t *testing.T) {
	q := make1(t, 1, 1, 8)
	for _, data := range []string{"1", "22", "333", "4444", "55555", "666666"} {
		wantPush(t, q, msg(data), api.OK)
	}
	wantSent(t, q, 0, plenty, 40, 1, 2)
	wantExpire(t, q, 0, 2, api.OK)
	wantSent(t, q, 1, plenty, 20, 1)
	wantSent(t, q, 0, plenty, 20, 2)
	wantExpire(t, q, 0, 1, api.OK)
	wantSent(t, q, 1, plenty, 20, 2)
	wantExpire(t, q, 1, 2, api.OK)
	wantSent(t, q, 1, plenty, 20, 1) // 2 is to be sent again
	wantFlight(t, q, 0, 1)
	wantSack(t, q, sack(0), api.Acked{})
	q2 := q.Fork()
	wantSack(t, q2, sack(2), api.Acked{Bytes: [2]int{0, 1}, Moved: true})
	wantLeft(t, q2, 4, 18)
	wantSent(t, q, 0, plenty, plenty, 2, 3, 4, 5, 6)
	wantFlight(t, q, 20, 1)
	wantSack(t, q, sack(0, [2]uint16{3, 4}), api.Acked{Bytes: [2]int{7, 0}})
	wantSack(t, q, sack(0, [2]uint16{3, 4}), api.Acked{})
	wantSack(t, q, sack(3), api.Acked{Bytes: [2]int{2, 1}, Moved: true}) // 4 was taken, and is not told any more
	wantCum(t, q, 3)
	wantLeft(t, q, 3, 15)
	wantSack(t, q, sack(3), api.Acked{})
	wantSend(t, q, 1, 0, plenty, piece(4, 3, 3, "4444"))
	wantFlight(t, q, 11, 4)
	wantSack(t, q, sack(6), api.Acked{Bytes: [2]int{11, 4}, Moved: true})
	wantLeft(t, q, 0, 0)
	wantFlight(t, q, 0, 0)
	wantCum(t, q, 6)
	wantSack(t, q, sack(6), api.Acked{})
	wantSackErr(t, q, sack(7), api.ErrArg)
	wantSackErr(t, q, sack(5), api.ErrStale)
}

// P14.3: one that is to be sent again and is told in a block is taken, without a count.
func TestTakenAfterAll(t *testing.T) {
	q := flown(t, 4)
	wantExpire(t, q, 0, 4, api.OK)
	wantSack(t, q, sack(0, [2]uint16{2, 3}), api.Acked{})
	wantSent(t, q, 1, plenty, plenty, 1, 4)
	wantSack(t, q, sack(1, [2]uint16{3, 3}), api.Acked{Bytes: [2]int{0, 2}, Moved: true}) // 3, as the second behind 1, is not told: 2 and 3 go back
	wantSent(t, q, 1, plenty, plenty, 2, 3)
	wantSack(t, q, sack(4), api.Acked{Bytes: [2]int{0, 2}, Moved: true})
}

// P14.3: how often a piece is missed: once for each Sack that takes another one farther on.
func TestMissed(t *testing.T) {
	q := flown(t, 8)
	wantSack(t, q, sack(0, [2]uint16{3, 4}), api.Acked{Bytes: [2]int{2, 0}}) // 1, 2: once, though two were taken
	wantSack(t, q, sack(0, [2]uint16{3, 4}), api.Acked{})                    // none was taken just now
	wantSack(t, q, sack(0, [2]uint16{3, 4}), api.Acked{})
	wantSack(t, q, sack(0, [2]uint16{3, 5}), api.Acked{Bytes: [2]int{1, 0}})             // 1, 2: twice
	wantSack(t, q, sack(0, [2]uint16{2, 5}), api.Acked{Bytes: [2]int{1, 0}, Fast: true}) // 1: three times, 2 came
	wantFlight(t, q, 3, 0)                                                               // 6, 7, 8 were never missed
	wantSent(t, q, 1, 0, plenty, 1)
	wantFlight(t, q, 3, 1)
	wantSack(t, q, sack(0, [2]uint16{2, 6}), api.Acked{Bytes: [2]int{1, 0}}) // 1 is counted anew
	wantSack(t, q, sack(0, [2]uint16{2, 7}), api.Acked{Bytes: [2]int{1, 0}})
	wantSack(t, q, sack(0, [2]uint16{2, 8}), api.Acked{Bytes: [2]int{1, 0}, Fast: true})
	wantFlight(t, q, 0, 0)
	wantSack(t, q, sack(8), api.Acked{Moved: true})
}

// P14.3: pieces are missed also when cum moves; one that came by cum alone has none be missed.
func TestMissedWhileMoving(t *testing.T) {
	q := flown(t, 10)
	wantSack(t, q, sack(1), api.Acked{Bytes: [2]int{1, 0}, Moved: true})
	wantSack(t, q, sack(2), api.Acked{Bytes: [2]int{1, 0}, Moved: true})
	wantSack(t, q, sack(3), api.Acked{Bytes: [2]int{1, 0}, Moved: true})
	wantSack(t, q, sack(4, [2]uint16{3, 3}), api.Acked{Bytes: [2]int{2, 0}, Moved: true})                 // 7 came; 5, 6: once
	wantSack(t, q, sack(5, [2]uint16{2, 3}), api.Acked{Bytes: [2]int{2, 0}, Moved: true})                 // 8 came; 6: twice
	wantSack(t, q, sack(5, [2]uint16{2, 3}, [2]uint16{5, 5}), api.Acked{Bytes: [2]int{1, 0}, Fast: true}) // 10 came; 6: three times, 9: once
	wantFlight(t, q, 1, 0)
	wantSent(t, q, 0, 0, plenty, 6)
}

// P14.3: one that was to be sent again and is taken counts as taken just now; those that are to be sent again are not missed.
func TestMissedByOneThatWasGivenUp(t *testing.T) {
	q := make1(t, 1, 1, 1)
	for range 5 {
		wantPush(t, q, msg("x"), api.OK)
	}
	wantSent(t, q, 0, plenty, 60, 1, 2, 3)
	wantSent(t, q, 1, plenty, 40, 4, 5)
	wantExpire(t, q, 1, 2, api.OK)
	wantSack(t, q, sack(0, [2]uint16{4, 4}), api.Acked{})                                // 1, 2, 3: once
	wantSack(t, q, sack(0, [2]uint16{4, 5}), api.Acked{})                                // twice
	wantSack(t, q, sack(0), api.Acked{})                                                 // 4 and 5 go back
	wantSack(t, q, sack(0, [2]uint16{2, 2}), api.Acked{Bytes: [2]int{1, 0}, Fast: true}) // 1: three times; 3 is farther on
	wantFlight(t, q, 1, 0)
	wantSent(t, q, 1, plenty, plenty, 1, 4, 5)
	wantSack(t, q, sack(0, [2]uint16{2, 2}, [2]uint16{5, 5}), api.Acked{Bytes: [2]int{0, 1}, Fast: true}) // 3: three times; 1 and 4: once
	wantFlight(t, q, 0, 2)
}

// P14.3: what was taken and is in no block any more is to be sent again, and was not missed.
func TestGivenBack(t *testing.T) {
	q := flown(t, 5)
	wantSack(t, q, sack(0, [2]uint16{2, 5}), api.Acked{Bytes: [2]int{4, 0}})
	wantFlight(t, q, 1, 0)
	wantSack(t, q, sack(0, [2]uint16{3, 3}, [2]uint16{5, 5}), api.Acked{}) // nothing was taken just now
	wantSent(t, q, 1, 0, plenty, 2, 4)
	wantFlight(t, q, 1, 2)
	wantSack(t, q, sack(1), api.Acked{Bytes: [2]int{1, 0}, Moved: true})
	wantSent(t, q, 0, 0, plenty, 3, 5)
	wantSack(t, q, sack(5), api.Acked{Bytes: [2]int{2, 2}, Moved: true})
}

// P14.3: Fast is told once for all pieces that are given up at a time, and by those alone.
func TestFast(t *testing.T) {
	q := flown(t, 7)
	wantSack(t, q, sack(0, [2]uint16{5, 5}), api.Acked{Bytes: [2]int{1, 0}})
	wantSack(t, q, sack(0, [2]uint16{5, 6}), api.Acked{Bytes: [2]int{1, 0}})
	wantSack(t, q, sack(0, [2]uint16{5, 7}), api.Acked{Bytes: [2]int{1, 0}, Fast: true})
	wantFlight(t, q, 0, 0)
	wantSack(t, q, sack(0, [2]uint16{3, 3}, [2]uint16{5, 7}), api.Acked{})
	wantSent(t, q, 1, 0, plenty, 1, 2, 4)
	wantExpire(t, q, 1, 3, api.OK)
	wantSack(t, q, sack(2, [2]uint16{3, 5}), api.Acked{Moved: true})
	wantSent(t, q, 1, 0, plenty, 3, 4) // 3 was taken, and is in none
}

// P5 and P14.3: TSNs go round, where the queue begins just ahead of it.
func TestTSNsGoRound(t *testing.T) {
	first := uint32(math.MaxUint32 - 1)
	q := make1(t, first, 1, 1)
	wantPush(t, q, msg("12345"), api.OK)
	wantSent(t, q, 0, plenty, plenty, first, first+1, 0, 1, 2)
	wantSackErr(t, q, sack(3), api.ErrArg)
	wantSackErr(t, q, sack(first-2), api.ErrStale)
	wantSackErr(t, q, sack(first, [2]uint16{2, 5}), api.ErrArg)
	wantSack(t, q, sack(first-1, [2]uint16{3, 3}), api.Acked{Bytes: [2]int{1, 0}})
	wantSack(t, q, sack(first+1, [2]uint16{2, 2}), api.Acked{Bytes: [2]int{3, 0}, Moved: true}) // 0 is given back
	wantSent(t, q, 1, 0, plenty, 0)
	wantSack(t, q, sack(1), api.Acked{Bytes: [2]int{0, 1}, Moved: true})
	wantCum(t, q, 1)
	wantSackErr(t, q, sack(math.MaxUint32), api.ErrStale)
	wantPush(t, q, msg("6"), api.OK)
	wantSent(t, q, 0, plenty, plenty, 3)
}

// P14.3: pieces far ahead of cum, as many as there may be.
func TestFarBlocks(t *testing.T) {
	q := make1(t, 1, 1, 1)
	big := api.Msg{Data: make([]byte, 4096)}
	wantPush(t, q, big, api.OK)
	wantPush(t, q, big, api.OK)
	for q.Flight(0) < 8192 {
		if l, e := q.Send(0, plenty, plenty); e != api.OK || len(l) != 16 {
			t.Fatalf("%d pieces, error %d", len(l), e)
		}
	}
	wantSackErr(t, q, sack(0, [2]uint16{2, 8193}), api.ErrArg)
	wantSack(t, q, sack(0, [2]uint16{8192, 8192}), api.Acked{Bytes: [2]int{1, 0}})
	wantSack(t, q, sack(0, [2]uint16{8191, 8192}), api.Acked{Bytes: [2]int{1, 0}})
	wantSackErr(t, q, sack(1, [2]uint16{2, 8192}), api.ErrArg)
	wantSack(t, q, sack(1, [2]uint16{2, 8191}), api.Acked{Bytes: [2]int{8189, 0}, Moved: true, Fast: true}) // 2 was missed three times
	wantFlight(t, q, 0, 0)
	wantSack(t, q, sack(8192), api.Acked{Moved: true})
	wantLeft(t, q, 0, 0)
}

// P4: of a queue and its Fork neither changes the other.
func TestFork(t *testing.T) {
	q := make1(t, 1, 2, 4)
	wantPush(t, q, msg("123456789abc"), api.OK)
	wantSent(t, q, 0, 8, plenty, 1, 2)
	wantSack(t, q, sack(0, [2]uint16{2, 2}), api.Acked{Bytes: [2]int{4, 0}})
	other := q.Fork()
	check := func(q *outq.Queue) {
		t.Helper()
		wantCum(t, q, 0)
		wantFlight(t, q, 4, 0)
		wantLeft(t, q, 3, 12)
	}
	change := func(q *outq.Queue) {
		t.Helper()
		wantPush(t, q, msg("defgh"), api.OK)
		wantExpire(t, q, 0, 1, api.OK)
		wantSend(t, q, 1, plenty, plenty, piece(1, 2, 0, "1234"), piece(3, 1, 0, "9abc"), piece(4, 2, 1, "defg"), piece(5, 1, 1, "h"))
		wantSack(t, q, sack(0, [2]uint16{2, 3}), api.Acked{Bytes: [2]int{0, 4}})
		wantSack(t, q, sack(3), api.Acked{Bytes: [2]int{0, 4}, Moved: true})
		wantPush(t, q, msg("i"), api.OK)
		wantLeft(t, q, 3, 6)
	}
	check(other)
	change(q)
	check(other)
	third := other.Fork()
	change(other)
	check(third)
	change(third)
	for _, x := range []*outq.Queue{q, other, third} {
		wantSend(t, x, 0, plenty, plenty, piece(6, 3, 2, "i"))
		wantFlight(t, x, 1, 5)
	}
}

// P3: what is handed in is neither changed nor kept, and what is sent is new memory each time.
func TestMemory(t *testing.T) {
	spare := []byte("123456789rest")
	q := make1(t, 1, 1, 4)
	wantPush(t, q, api.Msg{Data: spare[:9]}, api.OK)
	if string(spare) != "123456789rest" {
		t.Fatalf("changed: %q", spare)
	}
	copy(spare, "XXXXXXXXXXXXX")
	other := q.Fork()
	want := []api.Chunk{piece(1, 2, 0, "1234"), piece(2, 0, 0, "5678"), piece(3, 1, 0, "9")}
	for range 3 {
		for _, x := range []*outq.Queue{q, other} {
			l, e := x.Send(0, plenty, plenty)
			if e != api.OK || !slices.EqualFunc(l, want, same) {
				t.Fatalf("%s, error %d", brief(l), e)
			}
			for i := range l {
				b := l[i].Data[:cap(l[i].Data)]
				for k := range b {
					b[k] = 'Z'
				}
				l[i] = api.Chunk{}
			}
			wantExpire(t, x, 0, 3, api.OK)
		}
	}
	blocks := [][2]uint16{{2, 2}, {3, 3}, {9, 9}}
	dups := []uint32{1, 2, 3}
	c := api.Chunk{Type: api.Sack, Blocks: blocks[:2], Dups: dups[:1]}
	wantSack(t, q, c, api.Acked{})
	if !slices.Equal(blocks, [][2]uint16{{2, 2}, {3, 3}, {9, 9}}) || !slices.Equal(dups, []uint32{1, 2, 3}) {
		t.Error("a Sack was changed")
	}
}
