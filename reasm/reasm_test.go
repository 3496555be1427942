package reasm_test

import (
	"bytes"
	"fmt"
	"math"
	"slices"
	"testing"

	"trunkline/api"
	"trunkline/ip"
	"trunkline/reasm"
)

// draws is a row of numbers that look like chance and are the same each time.
func draws(seed uint64) func() uint64 {
	return func() uint64 {
		seed += 0x9e3779b97f4a7c15
		z := (seed ^ seed>>30) * 0xbf58476d1ce4e5b9
		z = (z ^ z>>27) * 0x94d049bb133111eb
		return z ^ z>>31
	}
}

func drawBytes(draw func() uint64, n int) []byte {
	b := make([]byte, n)
	for i := range b {
		b[i] = byte(draw())
	}
	return b
}

// brief is the beginning of what x is.
func brief(x any) string {
	s := fmt.Sprint(x)
	return s[:min(200, len(s))]
}

func same(a, b api.Packet) bool {
	bodies := bytes.Equal(a.Body, b.Body)
	return bodies && a.Src == b.Src && a.Dst == b.Dst && a.Proto == b.Proto && a.TTL == b.TTL && a.ID == b.ID && a.Dont == b.Dont && a.More == b.More && a.Off == b.Off
}

// first, middle and last are pieces of the packet with the number id.
func first(id uint16, body string) api.Packet { return middle(id, 0, body) }
func middle(id uint16, off int, body string) api.Packet {
	return api.Packet{ID: id, Off: off, More: true, Body: []byte(body)}
}
func last(id uint16, off int, body string) api.Packet {
	return api.Packet{ID: id, Off: off, Body: []byte(body)}
}

const eight = "01234567"

func wantAdd(t *testing.T, r *reasm.Pool, p api.Packet, now int, want api.Packet, wantOk bool, wantErr api.Errno) {
	t.Helper()
	if got, ok, e := r.Add(p, now); !same(got, want) || ok != wantOk || e != wantErr {
		t.Fatalf("Add(%s, %d): %s, %v, error %d; want %s, %v, error %d", brief(p), now, brief(got), ok, e, brief(want), wantOk, wantErr)
	}
}

// wantHeld adds pieces that make nothing whole.
func wantHeld(t *testing.T, r *reasm.Pool, now int, pieces ...api.Packet) {
	t.Helper()
	for _, p := range pieces {
		wantAdd(t, r, p, now, api.Packet{}, false, api.OK)
	}
}

func wantErr(t *testing.T, r *reasm.Pool, p api.Packet, now int, want api.Errno) {
	t.Helper()
	wantAdd(t, r, p, now, api.Packet{}, false, want)
}

func wantTick(t *testing.T, r *reasm.Pool, now, want int, wantErr api.Errno) {
	t.Helper()
	if n, e := r.Tick(now); n != want || e != wantErr {
		t.Fatalf("Tick(%d): %d, error %d; want %d, error %d", now, n, e, want, wantErr)
	}
}

func wantCount(t *testing.T, r *reasm.Pool, packets, size, dropped int) {
	t.Helper()
	if n, k, d := r.Count(); n != packets || k != size || d != dropped {
		t.Fatalf("Count: %d, %d, %d; want %d, %d, %d", n, k, d, packets, size, dropped)
	}
}

// P1, P11.1 and P11.2: what nil answers, whatever else is wrong.
func TestNil(t *testing.T) {
	var r *reasm.Pool
	for _, now := range []int{0, 5, -1, math.MaxInt, math.MinInt} {
		wantErr(t, r, last(1, 0, "x"), now, api.ErrNil)
		wantErr(t, r, api.Packet{Off: -3}, now, api.ErrNil)
		wantTick(t, r, now, 0, api.ErrNil)
	}
	wantCount(t, r, 0, 0, 0)
	if r.Fork() != nil {
		t.Error("a Fork of nil")
	}
}

// P11.1 and P11.2: ticks from 0 to MaxTick, none below that of a call ahead.
func TestTicks(t *testing.T) {
	piece, whole := first(1, eight), last(2, 0, "x")
	for _, now := range []int{-1, math.MinInt, api.MaxTick + 1, math.MaxInt} {
		r := reasm.New()
		wantErr(t, r, whole, now, api.ErrArg)
		wantErr(t, r, piece, now, api.ErrArg)
		wantErr(t, r, api.Packet{Off: 65520}, now, api.ErrArg)
		wantTick(t, r, now, 0, api.ErrArg)
		wantCount(t, r, 0, 0, 0)
		wantHeld(t, r, 0, piece)
	}
	calls := map[string]func(r *reasm.Pool, now int) api.Errno{
		"a whole one": func(r *reasm.Pool, now int) api.Errno { _, _, e := r.Add(whole, now); return e },
		"a piece":     func(r *reasm.Pool, now int) api.Errno { _, _, e := r.Add(piece, now); return e },
		"a Tick":      func(r *reasm.Pool, now int) api.Errno { _, e := r.Tick(now); return e },
	}
	for name, call := range calls {
		for _, now := range []int{0, 1, 29, api.MaxTick - 1, api.MaxTick} {
			for behind, next := range calls {
				r := reasm.New()
				if e := call(r, now); e != api.OK {
					t.Fatalf("%s at %d: error %d", name, now, e)
				}
				if e := next(r, now-1); now > 0 && e != api.ErrTick {
					t.Fatalf("%s at %d, then %s ahead of it: error %d", name, now, behind, e)
				}
				if e := next(r, now); e != api.OK {
					t.Fatalf("%s, then %s, both at %d: error %d", name, behind, now, e)
				}
			}
		}
	}
}

// P11.1: a piece that is there already counts for the ticks, though nothing more becomes of it.
func TestTickOfADouble(t *testing.T) {
	r := reasm.New()
	wantHeld(t, r, 3, first(1, eight))
	wantHeld(t, r, 9, first(1, eight))
	wantTick(t, r, 8, 0, api.ErrTick)
	wantTick(t, r, 3+api.MaxHold, 1, api.OK)
}

// P2: a tick of a call with an error counts for nothing.
func TestTicksOfErrors(t *testing.T) {
	r := reasm.New()
	wantHeld(t, r, 3, first(1, eight))
	wantErr(t, r, api.Packet{Off: 4}, 9, api.ErrArg)
	wantErr(t, r, api.Packet{Off: 65520}, 9, api.ErrLimit)
	wantErr(t, r, last(1, 8, ""), 9, api.ErrForm)
	wantErr(t, r, last(1, 4096, "x"), 9, api.ErrLimit)
	wantTick(t, r, api.MaxTick+1, 0, api.ErrArg)
	wantErr(t, r, first(1, "another."), 9, api.ErrForm)
	wantTick(t, r, 2, 0, api.ErrTick)
	wantTick(t, r, 3, 0, api.OK)
}

// P11.1: what is whole comes back at once, whatever it is, and nothing is held.
func TestWholeOnes(t *testing.T) {
	r := reasm.New()
	draw := draws(111)
	for _, size := range []int{0, 1, 8, 4096, 4097, 65515} {
		p := api.Packet{Src: 1, Dst: 2, Proto: 3, TTL: 4, ID: 5, Dont: size%2 == 0, Body: drawBytes(draw, size)}
		wantAdd(t, r, p, 0, p, true, api.OK)
	}
	wantCount(t, r, 0, 0, 0)
	wantHeld(t, r, 0, last(7, 8, "end"))
	wantAdd(t, r, last(7, 0, "x"), 0, last(7, 0, "x"), true, api.OK)
	wantCount(t, r, 1, 3, 0)
	wantAdd(t, r, first(7, eight), 0, last(7, 0, eight+"end"), true, api.OK)
}

// P11.1: Put's errors, ahead of all that a piece may be.
func TestPutErrors(t *testing.T) {
	r := reasm.New()
	wantHeld(t, r, 0, first(1, eight))
	for _, p := range []api.Packet{
		{ID: 1, Off: 1, Body: []byte("x")}, {ID: 1, Off: -8}, {ID: 1, Off: 65536}, {ID: 1, Off: math.MaxInt}, {ID: 1, Off: math.MinInt},
		{ID: 1, More: true, Body: []byte("1234567")}, {ID: 1, Off: 4096, More: true, Body: []byte("x")},
	} {
		wantErr(t, r, p, 0, api.ErrArg)
	}
	wantErr(t, r, api.Packet{ID: 1, Body: make([]byte, 65516)}, 0, api.ErrLimit)
	wantErr(t, r, api.Packet{ID: 1, Off: 65520}, 0, api.ErrLimit)
	wantErr(t, r, api.Packet{ID: 1, Off: 65520, Body: []byte("x")}, 0, api.ErrLimit)
	wantCount(t, r, 1, 8, 0)
	wantAdd(t, r, last(1, 8, "x"), 0, last(1, 0, eight+"x"), true, api.OK)
}

// P11.1: a piece without a byte is none, ahead of the limit, and changes nothing.
func TestEmptyPieces(t *testing.T) {
	r := reasm.New()
	wantHeld(t, r, 0, first(1, eight), middle(1, 16, eight))
	for _, p := range []api.Packet{first(1, ""), last(1, 8, ""), middle(1, 8, ""), middle(1, 4096, ""), last(1, 4104, ""), last(1, 65512, ""), first(2, "")} {
		wantErr(t, r, p, 0, api.ErrForm)
	}
	wantCount(t, r, 1, 16, 0)
}

// P11.1 and P2: what ends beyond MaxDatagram is refused, and what is there stays.
func TestLimit(t *testing.T) {
	r := reasm.New()
	wantErr(t, r, last(1, 4096, "x"), 0, api.ErrLimit)
	wantErr(t, r, last(1, 4088, "012345678"), 0, api.ErrLimit)
	wantErr(t, r, middle(1, 4088, eight+eight), 0, api.ErrLimit)
	wantErr(t, r, first(1, string(make([]byte, 4104))), 0, api.ErrLimit)
	wantErr(t, r, last(1, 65512, "xyz"), 0, api.ErrLimit)
	wantCount(t, r, 0, 0, 0)
	wantHeld(t, r, 0, last(1, 4088, eight), first(2, string(make([]byte, 4096))))
	wantCount(t, r, 2, 4104, 0)
	wantErr(t, r, middle(1, 4096, eight), 0, api.ErrLimit)
	wantErr(t, r, middle(1, 4080, eight+eight+eight), 0, api.ErrLimit)
	wantCount(t, r, 2, 4104, 0)
	body := string(make([]byte, 4088))
	wantAdd(t, r, first(1, body), 0, last(1, 0, body+eight), true, api.OK)
}

// refusals are pieces that may not stand beside others.
var refusals = []struct {
	name  string
	there []api.Packet
	p     api.Packet
}{
	{"another byte", []api.Packet{first(1, eight)}, first(1, "01234568")},
	{"another end", []api.Packet{middle(1, 8, eight)}, last(1, 8, eight)},
	{"another end, the other way", []api.Packet{last(1, 8, eight)}, middle(1, 8, eight)},
	{"longer", []api.Packet{first(1, eight)}, first(1, eight+eight)},
	{"shorter", []api.Packet{first(1, eight+eight)}, first(1, eight)},
	{"within", []api.Packet{first(1, eight+eight+eight)}, middle(1, 8, eight)},
	{"around", []api.Packet{middle(1, 8, eight)}, first(1, eight+eight+eight)},
	{"over the end", []api.Packet{first(1, eight+eight)}, middle(1, 8, eight+eight)},
	{"over the beginning", []api.Packet{middle(1, 8, eight+eight)}, first(1, eight+eight)},
	{"over one of two", []api.Packet{middle(1, 32, eight), first(1, eight+eight)}, middle(1, 8, eight)},
	{"one byte of the last one", []api.Packet{last(1, 8, "x")}, first(1, eight+eight)},
	{"the last one's one byte", []api.Packet{first(1, eight+eight)}, last(1, 8, "x")},
	{"beyond the end", []api.Packet{last(1, 8, "end")}, middle(1, 16, eight)},
	{"just behind the end", []api.Packet{last(1, 8, eight)}, middle(1, 16, eight)},
	{"an end behind the end", []api.Packet{last(1, 8, "end")}, last(1, 16, "end")},
	{"an end ahead of the end", []api.Packet{last(1, 16, "end")}, last(1, 8, "end")},
	{"an end ahead of another one", []api.Packet{middle(1, 24, eight)}, last(1, 8, "end")},
	{"an end just ahead of another one", []api.Packet{middle(1, 16, eight)}, last(1, 8, eight)},
}

// P11.1: a piece that does not go with the others has its packet dropped, and is not held either.
func TestRefusals(t *testing.T) {
	for _, x := range refusals {
		r := reasm.New()
		wantHeld(t, r, 0, first(2, eight))
		wantHeld(t, r, 0, x.there...)
		wantHeld(t, r, 0, first(3, eight))
		if _, ok, e := r.Add(x.p, 0); ok || e != api.ErrForm {
			t.Fatalf("%s: %v, error %d", x.name, ok, e)
		}
		wantCount(t, r, 2, 16, 1)
		wantHeld(t, r, 0, x.p) // by itself it may be
		wantCount(t, r, 3, 16+len(x.p.Body), 1)
		wantAdd(t, r, last(2, 8, "b"), 0, last(2, 0, eight+"b"), true, api.OK)
		wantAdd(t, r, last(3, 8, "c"), 0, last(3, 0, eight+"c"), true, api.OK)
	}
}

// P11.1: pieces that lie side by side, or with a gap, may be.
func TestNeighboursMayBe(t *testing.T) {
	r := reasm.New()
	wantHeld(t, r, 0, middle(1, 16, eight), middle(1, 8, eight), middle(1, 24, eight), middle(1, 48, eight), last(1, 64, "x"), middle(1, 56, eight))
	wantCount(t, r, 1, 41, 0)
	wantHeld(t, r, 0, first(1, eight), middle(1, 32, eight))
	want := eight + eight + eight + eight + eight + eight + eight + eight + "x"
	wantAdd(t, r, middle(1, 40, eight), 0, last(1, 0, want), true, api.OK)
	wantCount(t, r, 0, 0, 0)
}

// P11.1: a piece that is there already changes nothing, also if it has another TTL, or Dont.
func TestDoubles(t *testing.T) {
	r := reasm.New()
	a := api.Packet{Src: 1, Dst: 2, Proto: 3, TTL: 4, ID: 5, Dont: true, More: true, Body: []byte(eight)}
	b := api.Packet{Src: 1, Dst: 2, Proto: 3, TTL: 9, ID: 5, Off: 16, Body: []byte("end")}
	wantHeld(t, r, 0, a, b)
	for range 3 {
		double := a
		double.TTL, double.Dont = 77, false
		wantHeld(t, r, 0, double, a, b)
		wantCount(t, r, 1, 11, 0)
	}
	c := api.Packet{Src: 1, Dst: 2, Proto: 3, TTL: 8, ID: 5, Off: 8, More: true, Body: []byte("89abcdef")}
	want := api.Packet{Src: 1, Dst: 2, Proto: 3, TTL: 4, ID: 5, Dont: true, Body: []byte("0123456789abcdefend")}
	wantAdd(t, r, c, 0, want, true, api.OK)
	wantCount(t, r, 0, 0, 0)
	wantHeld(t, r, 0, b, c) // all begins anew
	wantCount(t, r, 1, 11, 0)
}

// Example 1 of the chapter.
func TestExample(t *testing.T) {
	r := reasm.New()
	wantHeld(t, r, 0, last(1, 8, "end"))
	wantAdd(t, r, first(1, eight), 0, last(1, 0, eight+"end"), true, api.OK)
}

// P11.1: where there is no room the packet whose first piece came the longest ago goes.
func TestRoom(t *testing.T) {
	r := reasm.New()
	for id := range 4 {
		wantHeld(t, r, id/2, first(uint16(id), eight))
	}
	wantHeld(t, r, 5, middle(0, 16, eight)) // it is not the last piece that counts
	wantCount(t, r, 4, 40, 0)
	wantHeld(t, r, 5, first(4, eight))
	wantCount(t, r, 4, 32, 1)
	wantHeld(t, r, 6, last(0, 8, "x")) // forgotten, so it is one more
	wantCount(t, r, 4, 25, 2)
	wantAdd(t, r, last(2, 8, "2"), 6, last(2, 0, eight+"2"), true, api.OK)
	wantAdd(t, r, last(3, 8, "3"), 6, last(3, 0, eight+"3"), true, api.OK)
	wantAdd(t, r, last(4, 8, "4"), 6, last(4, 0, eight+"4"), true, api.OK)
	wantCount(t, r, 1, 1, 2)
}

// P11.1: what is not held has nobody go.
func TestRoomStays(t *testing.T) {
	r := reasm.New()
	for id := range 4 {
		wantHeld(t, r, 0, first(uint16(id), eight))
	}
	wantAdd(t, r, last(9, 0, "whole"), 0, last(9, 0, "whole"), true, api.OK)
	wantErr(t, r, last(9, 8, ""), 0, api.ErrForm)
	wantErr(t, r, last(9, 4096, "x"), 0, api.ErrLimit)
	wantErr(t, r, api.Packet{ID: 9, Off: 3}, 0, api.ErrArg)
	wantHeld(t, r, 0, first(0, eight), middle(3, 16, eight))
	wantCount(t, r, 4, 40, 0)
	wantErr(t, r, first(1, "another."), 0, api.ErrForm)
	wantHeld(t, r, 0, first(9, eight))
	wantCount(t, r, 4, 40, 1)
}

// P11.2: a packet waits MaxHold ticks from its first piece on; only a Tick drops it.
func TestTick(t *testing.T) {
	r := reasm.New()
	wantTick(t, r, 0, 0, api.OK)
	wantHeld(t, r, 10, first(1, eight))
	wantHeld(t, r, 11, first(2, eight), last(3, 8, "x"))
	wantHeld(t, r, 39, middle(1, 16, eight))
	wantTick(t, r, 39, 0, api.OK)
	wantHeld(t, r, 40, first(4, eight))
	wantCount(t, r, 4, 33, 0)
	wantTick(t, r, 40, 1, api.OK)
	wantCount(t, r, 3, 17, 1)
	wantTick(t, r, 40, 0, api.OK)
	wantAdd(t, r, first(3, eight), 400, last(3, 0, eight+"x"), true, api.OK)
	wantTick(t, r, 401, 2, api.OK)
	wantCount(t, r, 0, 0, 3)
	wantTick(t, r, 401, 0, api.OK)
	wantHeld(t, r, api.MaxTick-30, first(1, eight))
	wantTick(t, r, api.MaxTick-1, 0, api.OK)
	wantTick(t, r, api.MaxTick, 1, api.OK)
	wantCount(t, r, 0, 0, 4)
}

// P11.2: a packet of which pieces were dropped, or that came whole, begins anew.
func TestTickOfOneThatBeginsAnew(t *testing.T) {
	r := reasm.New()
	wantHeld(t, r, 0, first(1, eight), first(2, eight))
	wantErr(t, r, first(1, "another."), 20, api.ErrForm)
	wantAdd(t, r, last(2, 8, "x"), 20, last(2, 0, eight+"x"), true, api.OK)
	wantHeld(t, r, 20, first(1, eight), first(2, eight))
	wantTick(t, r, 49, 0, api.OK)
	wantTick(t, r, 50, 2, api.OK)
}

// permute hands each order of the numbers below n to visit.
func permute(n int, visit func([]int)) {
	var order []int
	var place func()
	place = func() {
		if len(order) == n {
			visit(order)
			return
		}
		for i := range n {
			if !slices.Contains(order, i) {
				order = append(order, i)
				place()
				order = order[:len(order)-1]
			}
		}
	}
	place()
}

// P11.3: in each order of its pieces, each of them twice, a packet comes whole with the last one that was missing.
func TestOrders(t *testing.T) {
	p := api.Packet{Src: 1, Dst: 2, Proto: 3, TTL: 4, ID: 5, Body: []byte("the quick brown fox jumps over the lazy dog")}
	pieces, e := ip.Split(p, 28)
	if e != api.OK || len(pieces) != 6 {
		t.Fatalf("%d pieces, error %d", len(pieces), e)
	}
	permute(len(pieces), func(order []int) {
		r := reasm.New()
		for _, i := range order[:5] {
			wantHeld(t, r, 0, pieces[i], pieces[order[0]], pieces[i])
		}
		wantAdd(t, r, pieces[order[5]], 0, p, true, api.OK)
		wantCount(t, r, 0, 0, 0)
	})
}

// P11.3: packets that have but one of Src, Dst, Proto and ID not in common are not mixed.
func TestNotMixed(t *testing.T) {
	base := api.Packet{Src: 1, Dst: 2, Proto: 3, ID: 4}
	others := []api.Packet{{Src: 9, Dst: 2, Proto: 3, ID: 4}, {Src: 1, Dst: 9, Proto: 3, ID: 4}, {Src: 1, Dst: 2, Proto: 9, ID: 4}, {Src: 1, Dst: 2, Proto: 3, ID: 9}, {Src: 2, Dst: 1, Proto: 3, ID: 4}}
	piece := func(p api.Packet, off int, more bool, body string) api.Packet {
		p.Off, p.More, p.Body = off, more, []byte(body)
		return p
	}
	for _, other := range others {
		r := reasm.New()
		wantHeld(t, r, 0, piece(base, 0, true, "basebase"), piece(other, 8, false, "other"), piece(base, 16, false, "end"))
		wantCount(t, r, 2, 16, 0)
		wantAdd(t, r, piece(other, 0, true, "another."), 0, piece(other, 0, false, "another.other"), true, api.OK)
		wantAdd(t, r, piece(base, 8, true, "BASEBASE"), 0, piece(base, 0, false, "basebaseBASEBASEend"), true, api.OK)
	}
}

// P11.3 and P11.4: the longest packet in the shortest pieces, from the end on.
func TestTheLongest(t *testing.T) {
	r := reasm.New()
	p := api.Packet{ID: 1, TTL: 7, Body: drawBytes(draws(113), api.MaxDatagram)}
	pieces, _ := ip.Split(p, 28)
	for i := len(pieces) - 1; i > 0; i-- {
		wantHeld(t, r, 0, pieces[i])
		wantCount(t, r, 1, 8*(len(pieces)-i), 0)
	}
	wantAdd(t, r, pieces[0], 0, p, true, api.OK)
}

// P4: of a pool and its Fork each goes on alone.
func TestFork(t *testing.T) {
	grow := func() *reasm.Pool {
		r := reasm.New()
		wantHeld(t, r, 1, first(1, eight), middle(1, 16, eight), middle(1, 32, eight), first(2, eight), last(3, 8, "x"), first(4, eight))
		return r
	}
	deeds := map[string]func(r *reasm.Pool){
		"more of one": func(r *reasm.Pool) { wantHeld(t, r, 2, last(1, 48, "y")) },
		"whole": func(r *reasm.Pool) {
			wantAdd(t, r, first(3, eight), 2, last(3, 0, eight+"x"), true, api.OK)
		},
		"refused": func(r *reasm.Pool) { wantErr(t, r, first(1, "another."), 2, api.ErrForm) },
		"no room": func(r *reasm.Pool) { wantHeld(t, r, 2, first(9, eight)) },
		"ticks":   func(r *reasm.Pool) { wantTick(t, r, 31, 4, api.OK) },
	}
	asWas := func(r *reasm.Pool) {
		t.Helper()
		wantCount(t, r, 4, 41, 0)
		wantTick(t, r, 1, 0, api.OK)
		wantHeld(t, r, 1, middle(1, 8, eight), middle(1, 24, eight))
		wantAdd(t, r, last(1, 40, "z"), 1, last(1, 0, eight+eight+eight+eight+eight+"z"), true, api.OK)
		wantAdd(t, r, last(2, 8, "z"), 1, last(2, 0, eight+"z"), true, api.OK)
		wantAdd(t, r, first(3, eight), 1, last(3, 0, eight+"x"), true, api.OK)
		wantTick(t, r, 31, 1, api.OK)
		wantCount(t, r, 0, 0, 1)
	}
	for _, deed := range deeds {
		r := grow()
		other := r.Fork()
		deed(r)
		asWas(other)
		r = grow()
		other = r.Fork()
		deed(other)
		asWas(r)
		r = grow()
		for _, next := range deeds {
			next(r.Fork())
		}
		asWas(r)
	}
	empty := reasm.New()
	wantCount(t, empty.Fork(), 0, 0, 0)
}

// P4: pieces of one packet that come to a pool and to its Fork in turn, in each number, do not meet.
func TestForksInTurn(t *testing.T) {
	for n := 1; n < 10; n++ {
		r := reasm.New()
		body := ""
		for i := range n {
			wantHeld(t, r, 0, middle(1, 8*i, eight))
			body += eight
		}
		other := r.Fork()
		wantHeld(t, r, 0, middle(1, 8*n, "of one ."))
		wantHeld(t, other, 0, middle(1, 8*n, "of other"))
		wantAdd(t, r, last(1, 8*n+8, "1"), 0, last(1, 0, body+"of one .1"), true, api.OK)
		wantAdd(t, other, last(1, 8*n+8, "2"), 0, last(1, 0, body+"of other2"), true, api.OK)
	}
}

// scribble writes over a list and the spare room behind it.
func scribble(b []byte) {
	b = b[:cap(b)]
	for i := range b {
		b[i] ^= 0x5a
	}
}

// P3: what is handed in stays as it is, and is not kept; what is answered is new memory.
func TestNewMemory(t *testing.T) {
	r := reasm.New()
	whole := []byte("a whole one, and spare room")
	p := api.Packet{ID: 1, Body: whole[:11]}
	got, ok, _ := r.Add(p, 0)
	if !ok {
		t.Fatal("not whole")
	}
	scribble(got.Body)
	if string(whole) != "a whole one, and spare room" {
		t.Errorf("the answer lies in what was handed in: %q", whole)
	}
	bodies := [][]byte{[]byte("01234567 and spare room"), []byte("89abcdef and spare room"), []byte("end and spare room")}
	for i, b := range bodies {
		size := []int{8, 8, 3}[i]
		p := api.Packet{ID: 1, Off: 8 * i, More: i < 2, Body: b[:size]}
		keep := bytes.Clone(b)
		other := r.Fork()
		got, ok, _ = r.Add(p, 0)
		if !bytes.Equal(b, keep) {
			t.Fatalf("what was handed in was changed: %q", b)
		}
		if i < 2 {
			scribble(b)
			continue
		}
		again, _, _ := other.Add(p, 0)
		scribble(b)
		if !ok || string(got.Body) != "0123456789abcdefend" {
			t.Fatalf("what was handed in was kept: %q", got.Body)
		}
		scribble(got.Body)
		if string(again.Body) != "0123456789abcdefend" {
			t.Fatalf("two answers share memory: %q", again.Body)
		}
	}
}
