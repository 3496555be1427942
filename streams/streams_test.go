package streams_test

import (
	"bytes"
	"fmt"
	"math"
	"slices"
	"testing"

	"trunkline/api"
	"trunkline/streams"
)

// Flags of pieces.
const (
	middle = 0
	end    = api.FlagEnd
	begin  = api.FlagBegin
	whole  = api.FlagBegin | api.FlagEnd
	free   = api.FlagFree
)

// draws is a row of numbers that look like chance and are the same each time.
func draws(seed uint64) func() uint64 {
	return func() uint64 {
		seed += 0x9e3779b97f4a7c15
		z := (seed ^ seed>>30) * 0xbf58476d1ce4e5b9
		z = (z ^ z>>27) * 0x94d049bb133111eb
		return z ^ z>>31
	}
}

// brief is the beginning of what x is.
func brief(x any) string {
	s := fmt.Sprintf("%+v", x)
	return s[:min(300, len(s))]
}

func same(a, b api.Msg) bool {
	return a.Stream == b.Stream && a.SSN == b.SSN && a.PPID == b.PPID && a.Free == b.Free && bytes.Equal(a.Data, b.Data)
}

// piece is a Data chunk of stream 0.
func piece(tsn uint32, flags uint8, ssn uint16, data string) api.Chunk {
	return on(0, tsn, flags, ssn, data)
}

func on(stream uint16, tsn uint32, flags uint8, ssn uint16, data string) api.Chunk {
	return api.Chunk{Type: api.Data, Flags: flags, TSN: tsn, Stream: stream, SSN: ssn, Data: []byte(data)}
}

// told is a message of stream 0 that is not free.
func told(ssn uint16, data string) api.Msg { return api.Msg{SSN: ssn, Data: []byte(data)} }

func toldFree(data string) api.Msg { return api.Msg{Free: true, Data: []byte(data)} }

func make1(t *testing.T, ins int) *streams.Streams {
	t.Helper()
	s, e := streams.New(ins)
	if s == nil || e != api.OK {
		t.Fatalf("New(%d): error %d", ins, e)
	}
	return s
}

func wantAdd(t *testing.T, s *streams.Streams, c api.Chunk, want ...api.Msg) {
	t.Helper()
	if l, e := s.Add(c); e != api.OK || !slices.EqualFunc(l, want, same) {
		t.Fatalf("Add(%s): %s, error %d; want %s", brief(c), brief(l), e, brief(want))
	}
}

func wantErr(t *testing.T, s *streams.Streams, c api.Chunk, want api.Errno) {
	t.Helper()
	if l, e := s.Add(c); e != want || len(l) > 0 {
		t.Fatalf("Add(%s): %s, error %d; want error %d", brief(c), brief(l), e, want)
	}
}

func wantHeld(t *testing.T, s *streams.Streams, pieces, size int) {
	t.Helper()
	if n, b := s.Held(); n != pieces || b != size {
		t.Fatalf("Held: %d, %d; want %d, %d", n, b, pieces, size)
	}
}

func wantNext(t *testing.T, s *streams.Streams, stream int, want uint16, wantErr api.Errno) {
	t.Helper()
	if n, e := s.Next(stream); n != want || e != wantErr {
		t.Fatalf("Next(%d): %d, error %d; want %d, error %d", stream, n, e, want, wantErr)
	}
}

// reach has stream 0 await an SSN, by a message of each one ahead of it; the TSNs are far from those that tests take.
func reach(t *testing.T, s *streams.Streams, ssn uint16) {
	t.Helper()
	for n := range ssn {
		wantAdd(t, s, piece(1<<30, whole, n, "x"), told(n, "x"))
	}
	wantNext(t, s, 0, ssn, api.OK)
}

// P1, P13.2 and P13.3: what nil answers, whatever else is wrong.
func TestNil(t *testing.T) {
	var s *streams.Streams
	for _, c := range []api.Chunk{piece(1, whole, 0, "x"), {}, {Type: api.Sack}, {Type: api.Sack, SSN: 1}, on(9, 1, 0, 0, "x")} {
		wantErr(t, s, c, api.ErrNil)
	}
	for _, stream := range []int{0, 1, -1, 8, math.MaxInt, math.MinInt} {
		wantNext(t, s, stream, 0, api.ErrNil)
	}
	wantHeld(t, s, 0, 0)
	if s.Fork() != nil {
		t.Error("a Fork of nil")
	}
}

// P1: streams that no call made have none, and do not panic.
func TestMadeByNobody(t *testing.T) {
	s := new(streams.Streams)
	if l, _ := s.Add(piece(1, whole, 0, "x")); len(l) > 0 {
		t.Error("a message on no stream")
	}
	s.Held()
	s.Next(0)
	s.Fork()
}

// P13.1: from 1 to MaxStreams streams, each of which awaits 0.
func TestNew(t *testing.T) {
	for _, ins := range []int{0, -1, api.MaxStreams + 1, math.MaxInt, math.MinInt, 1 << 16, 1<<16 + 1, 1 << 32, 1<<32 + 1} {
		if s, e := streams.New(ins); s != nil || e != api.ErrArg {
			t.Errorf("New(%d): %v, error %d", ins, s, e)
		}
	}
	for ins := 1; ins <= api.MaxStreams; ins++ {
		s := make1(t, ins)
		wantHeld(t, s, 0, 0)
		for stream := range ins {
			wantNext(t, s, stream, 0, api.OK)
			wantAdd(t, s, on(uint16(stream), 1, whole, 0, "x"), api.Msg{Stream: uint16(stream), Data: []byte("x")})
			wantNext(t, s, stream, 1, api.OK)
		}
		for _, stream := range []int{ins, ins + 1, -1, math.MaxInt, math.MinInt, 1 << 16, 1 << 32} {
			wantNext(t, s, stream, 0, api.ErrStream)
		}
		wantErr(t, s, on(uint16(ins), 1, whole, 0, "x"), api.ErrStream)
		wantErr(t, s, on(math.MaxUint16, 1, whole, 0, "x"), api.ErrStream)
		wantHeld(t, s, 0, 0)
	}
}

// P13.2 and P2: which error comes first, and that none of them changes anything.
func TestErrors(t *testing.T) {
	s := make1(t, 2)
	wantAdd(t, s, piece(0, middle, 0, "m"))
	wantAdd(t, s, piece(9, whole, 3, "waits"))
	check := func(pieces, size int) {
		t.Helper()
		big := piece(0, whole, 0, string(make([]byte, api.MaxSctp-28+1)))
		bare := on(2, 0, whole, 0, "")
		for _, x := range []struct {
			name string
			c    api.Chunk
			want api.Errno
		}{
			{"no Data, ahead of no stream", bare, api.ErrArg},
			{"a field of others", api.Chunk{Tag: 1, Data: []byte("x")}, api.ErrArg},
			{"a list of others", api.Chunk{Params: make([]api.Param, 17), Data: []byte("x")}, api.ErrArg},
			{"too long, ahead of a TSN that is there", big, api.ErrLimit},
			{"of another type, with a wrong field", api.Chunk{Type: api.Sack, Data: []byte("x")}, api.ErrArg},
			{"of another type, too long", api.Chunk{Type: api.CookieEcho, Data: make([]byte, 1500)}, api.ErrLimit},
			{"an unknown type", api.Chunk{Type: 77, Data: []byte("x")}, api.ErrType},
			{"a Sack", api.Chunk{Type: api.Sack}, api.ErrType},
			{"an Init with a TSN that is there", api.Chunk{Type: api.Init}, api.ErrType},
			{"no stream, ahead of a TSN that is there", on(2, 0, whole, 0, "x"), api.ErrStream},
			{"no stream at all", on(math.MaxUint16, 50, whole, 0, "x"), api.ErrStream},
			{"a TSN that is there", piece(0, middle, 0, "m"), api.ErrKnown},
			{"a TSN that is there, on another stream", on(1, 0, whole|free, 4, "other"), api.ErrKnown},
		} {
			if l, e := s.Add(x.c); e != x.want || len(l) > 0 {
				t.Fatalf("%s: %s, error %d; want error %d", x.name, brief(l), e, x.want)
			}
			wantHeld(t, s, pieces, size)
			wantNext(t, s, 0, 0, api.OK)
		}
	}
	check(2, 6)
	for n := range uint32(api.MaxHeld - 2) {
		wantAdd(t, s, piece(100+n, middle, 0, "y"))
	}
	check(128, 132) // all of these are ahead of ErrFull
	wantErr(t, s, piece(1, end, 0, "x"), api.ErrFull)
	wantHeld(t, s, 128, 132)
}

// P13.2: a Data chunk may have as many bytes as a packet takes.
func TestLongestPiece(t *testing.T) {
	s := make1(t, 1)
	data := string(bytes.Repeat([]byte("d"), api.MaxSctp-28))
	wantAdd(t, s, piece(2, end, 0, data))
	wantHeld(t, s, 1, 1452)
	wantAdd(t, s, piece(1, begin, 0, data), told(0, data+data))
}

// The examples of the chapter.
func TestExamples(t *testing.T) {
	s := make1(t, 1)
	wantAdd(t, s, piece(8, end, 0, "b"))
	wantAdd(t, s, piece(7, begin, 0, "a"), told(0, "ab"))
	s = make1(t, 1)
	wantAdd(t, s, piece(8, whole, 1, "second"))
	wantAdd(t, s, piece(7, whole, 0, "first"), told(0, "first"), told(1, "second"))
}

// P13.2: no other bits of the Flags count, each of the three that do does.
func TestFlags(t *testing.T) {
	for other := 0; other < 256; other += 8 {
		s := make1(t, 1)
		bits := uint8(other)
		wantAdd(t, s, piece(2, bits|end, 0, "b"))
		wantAdd(t, s, piece(1, begin, 0, "a"), told(0, "ab"))
		wantAdd(t, s, piece(3, bits|whole|free, 9, "f"), toldFree("f"))
		wantAdd(t, s, piece(4, bits, 1, "m"))
		wantAdd(t, s, piece(5, ^bits&0xf8|end, 1, "e"))
		wantAdd(t, s, piece(3, bits|begin, 1, "b"), told(1, "bme"))
	}
}

// P13.2: what is told has the stream, the SSN, the first piece's PPID, and whether it is free.
func TestFields(t *testing.T) {
	s := make1(t, 3)
	c := func(tsn uint32, flags uint8, ssn uint16, ppid uint32, data string) api.Chunk {
		c := on(2, tsn, flags, ssn, data)
		c.PPID = ppid
		return c
	}
	wantAdd(t, s, c(3, end, 1, 30, "3"))
	wantAdd(t, s, c(1, begin, 1, 10, "1"))
	wantAdd(t, s, c(2, middle, 1, 20, "2"))
	wantAdd(t, s, c(9, whole, 0, math.MaxUint32, "0"), api.Msg{Stream: 2, PPID: math.MaxUint32, Data: []byte("0")}, api.Msg{Stream: 2, SSN: 1, PPID: 10, Data: []byte("123")})
	wantAdd(t, s, c(5, free|end, 7, 50, "5"))
	wantAdd(t, s, c(4, free|begin, 8, 40, "4"), api.Msg{Stream: 2, PPID: 40, Free: true, Data: []byte("45")})
	wantNext(t, s, 0, 0, api.OK)
	wantNext(t, s, 1, 0, api.OK)
	wantNext(t, s, 2, 2, api.OK)
}

// misfits are pieces that stand one behind the other and are no message.
var misfits = []struct {
	name string
	l    []api.Chunk
}{
	{"no beginning", []api.Chunk{piece(1, middle, 0, "a"), piece(2, end, 0, "b")}},
	{"no end", []api.Chunk{piece(1, begin, 0, "a"), piece(2, middle, 0, "b")}},
	{"a gap", []api.Chunk{piece(1, begin, 0, "a"), piece(3, end, 0, "b")}},
	{"the wrong way round", []api.Chunk{piece(1, end, 0, "a"), piece(2, begin, 0, "b")}},
	{"two beginnings", []api.Chunk{piece(1, begin, 0, "a"), piece(2, begin, 0, "b")}},
	{"two ends", []api.Chunk{piece(1, end, 0, "a"), piece(2, end, 0, "b")}},
	{"an end ahead of an end", []api.Chunk{piece(1, middle, 0, "a"), piece(2, end, 0, "b"), piece(3, end, 0, "c")}},
	{"other streams", []api.Chunk{on(0, 1, begin, 0, "a"), on(1, 2, end, 0, "b")}},
	{"other SSNs", []api.Chunk{piece(1, begin, 0, "a"), piece(2, end, 1, "b")}},
	{"the first one alone is free", []api.Chunk{piece(1, begin|free, 0, "a"), piece(2, end, 0, "b")}},
	{"the last one alone is free", []api.Chunk{piece(1, begin, 0, "a"), piece(2, end|free, 0, "b")}},
	{"the middle one alone is free", []api.Chunk{piece(1, begin, 0, "a"), piece(2, free, 0, "b"), piece(3, end, 0, "c")}},
	{"the middle one of another stream", []api.Chunk{on(0, 1, begin, 0, "a"), on(1, 2, middle, 0, "b"), on(0, 3, end, 0, "c")}},
	{"the middle one of another SSN", []api.Chunk{piece(1, begin, 0, "a"), piece(2, middle, 1, "b"), piece(3, end, 0, "c")}},
	{"free ones of other streams", []api.Chunk{on(0, 1, begin|free, 0, "a"), on(1, 2, end|free, 0, "b")}},
	{"TSNs half round apart", []api.Chunk{piece(1, begin, 0, "a"), piece(1<<31+2, end, 0, "b")}},
}

// permute hands each order of the numbers below n to visit.
func permute(n int, visit func([]int)) {
	var order []int
	var place func()
	place = func() {
		if len(order) == n {
			visit(order)
			return
		}
		for i := range n {
			if !slices.Contains(order, i) {
				order = append(order, i)
				place()
				order = order[:len(order)-1]
			}
		}
	}
	place()
}

// P13.2 and P13.5: pieces that are no message are held, in each order.
func TestMisfits(t *testing.T) {
	for _, x := range misfits {
		permute(len(x.l), func(order []int) {
			s := make1(t, 2)
			for _, i := range order {
				if l, e := s.Add(x.l[i]); e != api.OK || len(l) > 0 {
					t.Fatalf("%s: %s, error %d", x.name, brief(l), e)
				}
			}
			wantHeld(t, s, len(x.l), len(x.l))
			wantNext(t, s, 0, 0, api.OK)
			wantNext(t, s, 1, 0, api.OK)
			for _, c := range x.l {
				wantErr(t, s, c, api.ErrKnown)
			}
		})
	}
}

// P13.2: what stands beside a message and is none of it stays.
func TestNeighboursStay(t *testing.T) {
	l := []api.Chunk{piece(1, begin, 0, "a"), piece(2, begin, 0, "b"), piece(3, middle, 0, "c"), piece(4, end, 0, "d"), piece(5, end, 0, "e"), piece(6, middle, 0, "f")}
	permute(len(l), func(order []int) {
		s := make1(t, 1)
		var got []api.Msg
		for _, i := range order {
			m, e := s.Add(l[i])
			if e != api.OK {
				t.Fatalf("error %d", e)
			}
			got = append(got, m...)
		}
		if !slices.EqualFunc(got, []api.Msg{told(0, "bcd")}, same) {
			t.Fatalf("%v: %s", order, brief(got))
		}
		wantHeld(t, s, 3, 3)
		for _, i := range []int{0, 4, 5} {
			wantErr(t, s, l[i], api.ErrKnown)
		}
	})
}

// P13.2: the SSNs of free pieces count for nothing.
func TestFreeSSNs(t *testing.T) {
	s := make1(t, 1)
	wantAdd(t, s, piece(3, free|end, 900, "c"))
	wantAdd(t, s, piece(1, free|begin, 7, "a"))
	wantAdd(t, s, piece(2, free, 40000, "b"), toldFree("abc"))
	wantNext(t, s, 0, 0, api.OK)
	wantAdd(t, s, piece(4, free|whole, 0, "d"), toldFree("d"))
	wantNext(t, s, 0, 0, api.OK)
}

// P5 and P13.2: TSNs go round.
func TestTSNsGoRound(t *testing.T) {
	for _, first := range []uint32{math.MaxUint32, math.MaxUint32 - 1, 1<<31 - 1, 1<<31 - 2, 0} {
		permute(3, func(order []int) {
			s := make1(t, 1)
			l := []api.Chunk{piece(first, begin, 0, "a"), piece(first+1, middle, 0, "b"), piece(first+2, end, 0, "c")}
			wantAdd(t, s, l[order[0]])
			wantAdd(t, s, l[order[1]])
			wantAdd(t, s, l[order[2]], told(0, "abc"))
			wantHeld(t, s, 0, 0)
		})
	}
}

// P13.2: the pieces of a message that waits are held no more: they may come again, though they count.
func TestPiecesOfOneThatWaits(t *testing.T) {
	s := make1(t, 1)
	wantAdd(t, s, piece(5, whole, 1, "old"))
	wantHeld(t, s, 1, 3)
	wantAdd(t, s, piece(5, middle, 1, "m"))
	wantHeld(t, s, 2, 4)
	wantErr(t, s, piece(5, middle, 1, "m"), api.ErrKnown)
	wantAdd(t, s, piece(6, end, 1, "e"))
	wantAdd(t, s, piece(4, begin, 1, "b"))
	wantHeld(t, s, 3, 3) // instead of the one that waited
	wantAdd(t, s, piece(1, whole, 0, "0"), told(0, "0"), told(1, "bme"))
	wantHeld(t, s, 0, 0)
}

// P13.2: a message takes the place of one of its stream and SSN that waits, and of no other.
func TestInsteadOfOneThatWaits(t *testing.T) {
	s := make1(t, 2)
	wantAdd(t, s, on(0, 1, whole, 2, "a"))
	wantAdd(t, s, on(1, 2, whole, 2, "bb"))
	wantAdd(t, s, on(0, 3, whole, 3, "ccc"))
	wantAdd(t, s, on(0, 4, whole, 2, "dddd"))
	wantHeld(t, s, 3, 9)
	wantAdd(t, s, on(0, 5, whole, 1, "1"))
	wantAdd(t, s, on(0, 6, whole, 0, "0"), told(0, "0"), told(1, "1"), told(2, "dddd"), told(3, "ccc"))
	wantNext(t, s, 0, 4, api.OK)
	wantNext(t, s, 1, 0, api.OK)
	wantHeld(t, s, 1, 2)
}

// P13.2: only what comes without a gap is told, the rest waits on.
func TestWaitsOn(t *testing.T) {
	s := make1(t, 2)
	for _, ssn := range []uint16{5, 1, 2, 4} {
		wantAdd(t, s, piece(uint32(ssn), whole, ssn, "x"))
	}
	wantAdd(t, s, on(1, 9, whole, 0, "y"), api.Msg{Stream: 1, Data: []byte("y")})
	wantAdd(t, s, piece(10, whole, 0, "x"), told(0, "x"), told(1, "x"), told(2, "x"))
	wantHeld(t, s, 2, 2)
	wantNext(t, s, 0, 3, api.OK)
	wantAdd(t, s, piece(11, whole|free, 3, "f"), toldFree("f"))
	wantAdd(t, s, piece(12, whole, 3, "x"), told(3, "x"), told(4, "x"), told(5, "x"))
	wantHeld(t, s, 0, 0)
	wantNext(t, s, 0, 6, api.OK)
}

// P13.2: a message that was told, or passed, is dropped; one half round from what is awaited is not less, and waits.
func TestDropped(t *testing.T) {
	s := make1(t, 1)
	reach(t, s, 3)
	for n, ssn := range []uint16{0, 1, 2, 65535, 0x8004} { // 0x8003 is half round
		wantAdd(t, s, piece(uint32(2*n+1), end, ssn, "b"))
		wantAdd(t, s, piece(uint32(2*n), begin, ssn, "a"))
		wantHeld(t, s, 0, 0)
		wantAdd(t, s, piece(uint32(2*n), middle, ssn, "a")) // its TSN is free again
		wantAdd(t, s, piece(uint32(2*n+1), whole, ssn, "b"))
		wantHeld(t, s, 1, 1)
		s = make1(t, 1)
		reach(t, s, 3)
	}
	for n, ssn := range []uint16{0x8003, 0x8002, 4, 0x7fff} {
		wantAdd(t, s, piece(uint32(n), whole, ssn, "w"))
		wantHeld(t, s, n+1, n+1)
	}
	wantNext(t, s, 0, 3, api.OK)
	wantAdd(t, s, piece(9, whole, 3, "x"), told(3, "x"), told(4, "w"))
}

// P13.2: SSNs go round, modulo 2^16; a message that waited half round is told in its turn.
func TestSSNsGoRound(t *testing.T) {
	s := make1(t, 1)
	wantAdd(t, s, piece(1, whole, 0x8000, "half"))
	for n := range uint32(0x7fff) {
		wantAdd(t, s, piece(7, whole, uint16(n), "x"), told(uint16(n), "x"))
	}
	wantAdd(t, s, piece(7, whole, 0x7fff, "x"), told(0x7fff, "x"), told(0x8000, "half"))
	for n := uint32(0x8001); n < 0xfffe; n++ {
		wantAdd(t, s, piece(7, whole, uint16(n), "x"), told(uint16(n), "x"))
	}
	wantNext(t, s, 0, 0xfffe, api.OK)
	wantAdd(t, s, piece(3, whole, 1, "c"))
	wantAdd(t, s, piece(2, whole, 0, "b"))
	wantAdd(t, s, piece(1, whole, 0xffff, "a"))
	wantHeld(t, s, 3, 3)
	wantAdd(t, s, piece(0, whole, 0xfffe, "x"), told(0xfffe, "x"), told(0xffff, "a"), told(0, "b"), told(1, "c"))
	wantNext(t, s, 0, 2, api.OK)
	wantAdd(t, s, piece(8, whole, 0xffff, "old"))
	wantHeld(t, s, 0, 0)
}

// P13.2, P13.3 and P13.6: no more than MaxHeld pieces, those of messages that wait among them; one that would make a message whole is refused, too.
func TestFull(t *testing.T) {
	s := make1(t, 2)
	for n := range uint32(40) { // 40 messages of two pieces
		wantAdd(t, s, piece(2*n, begin, uint16(n+1), "a"))
		wantAdd(t, s, piece(2*n+1, end, uint16(n+1), "bc"))
	}
	wantHeld(t, s, 80, 120)
	for n := range uint32(47) {
		wantAdd(t, s, on(1, 1000+n, middle, 0, "d"))
	}
	wantHeld(t, s, 127, 167)
	wantAdd(t, s, piece(2000, whole|free, 0, "free"), toldFree("free")) // the last place does
	wantAdd(t, s, on(1, 3000, end, 0, "e"))
	wantHeld(t, s, 128, 168)
	for _, c := range []api.Chunk{piece(5000, whole|free, 0, "f"), piece(5000, whole, 0, "x"), on(1, 2999, begin, 0, "b"), on(1, 5000, whole, 0, "x"), piece(0, begin, 1, "a")} {
		wantErr(t, s, c, api.ErrFull)
		wantHeld(t, s, 128, 168)
	}
	wantErr(t, s, on(1, 3000, end, 0, "e"), api.ErrKnown)
	wantNext(t, s, 0, 0, api.OK)
}

// P13.3: a message that is told makes room.
func TestRoomAgain(t *testing.T) {
	s := make1(t, 1)
	for n := range uint32(126) {
		wantAdd(t, s, piece(n+1, middle, 0, "m"))
	}
	wantAdd(t, s, piece(0, begin, 0, "b"))
	wantHeld(t, s, 127, 127)
	m := bytes.Repeat([]byte("m"), 128)
	m[0], m[127] = 'b', 'e'
	wantAdd(t, s, piece(127, end, 0, "e"), told(0, string(m)))
	wantHeld(t, s, 0, 0)
	for n := range uint32(128) {
		wantAdd(t, s, piece(n+1, middle, 1, "m"))
	}
	wantErr(t, s, piece(129, middle, 1, "m"), api.ErrFull)
}

// P4: of streams and their Fork neither changes the other.
func TestFork(t *testing.T) {
	s := make1(t, 2)
	reach(t, s, 2)
	wantAdd(t, s, piece(5, begin, 2, "a"))
	wantAdd(t, s, piece(8, whole, 3, "wait"))
	other := s.Fork()
	wantHeld(t, other, 2, 5)
	wantNext(t, other, 0, 2, api.OK)
	wantNext(t, other, 1, 0, api.OK)
	wantNext(t, other, 2, 0, api.ErrStream)
	wantErr(t, other, piece(5, end, 0, "x"), api.ErrKnown)
	wantAdd(t, s, piece(6, end, 2, "b"), told(2, "ab"), told(3, "wait"))
	wantAdd(t, s, piece(30, middle, 5, "other"))
	wantHeld(t, other, 2, 5)
	wantNext(t, other, 0, 2, api.OK)
	wantAdd(t, other, piece(9, whole, 3, "instead"))
	wantAdd(t, other, on(1, 10, whole, 0, "y"), api.Msg{Stream: 1, Data: []byte("y")})
	wantHeld(t, s, 1, 5)
	wantNext(t, s, 0, 4, api.OK)
	wantNext(t, s, 1, 0, api.OK)
	wantAdd(t, other, piece(6, end, 2, "c"), told(2, "ac"), told(3, "instead"))
	wantHeld(t, other, 0, 0)
	wantAdd(t, s, piece(29, begin, 5, "an"))
}

// P3 and P4: what is told by streams is no memory of their Fork, nor of a chunk.
func TestMemory(t *testing.T) {
	spare := []byte("abcdefgh")
	s := make1(t, 1)
	add := func(s *streams.Streams, tsn uint32, flags uint8, ssn uint16) []api.Msg {
		c := piece(tsn, flags, ssn, "")
		c.Data = spare[:3]
		l, e := s.Add(c)
		if e != api.OK || string(spare) != "abcdefgh" {
			t.Fatalf("error %d, %q", e, spare)
		}
		return l
	}
	add(s, 1, begin, 0)
	add(s, 5, whole, 1)
	add(s, 6, whole, 2)
	copy(spare, "XXXXXXXX")
	other := s.Fork()
	copy(spare, "abcdefgh")
	for _, x := range []*streams.Streams{s, other} {
		l := add(x, 2, end, 0)
		want := []api.Msg{told(0, "abcabc"), told(1, "abc"), told(2, "abc")}
		if !slices.EqualFunc(l, want, same) {
			t.Fatalf("%s", brief(l))
		}
		for i := range l {
			m := l[i].Data[:cap(l[i].Data)]
			for k := range m {
				m[k] = 'Z'
			}
			_ = append(l[i].Data, "ZZZZZZZZ"...)
		}
		for i := range l {
			if !bytes.Equal(l[i].Data, bytes.Repeat([]byte("Z"), len(want[i].Data))) {
				t.Fatal("two messages lie in one another")
			}
		}
	}
	l := add(s, 9, whole, 3)
	copy(spare, "XXXXXXXX")
	if string(l[0].Data) != "abc" {
		t.Error("what is told lies in the chunk")
	}
}
