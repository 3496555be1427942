package ip_test

import (
	"bytes"
	"math"
	"slices"
	"testing"

	"trunkline/api"
	"trunkline/ip"
)

func wantSplit(t *testing.T, name string, p api.Packet, mtu int, wantErr api.Errno, want ...api.Packet) {
	t.Helper()
	if l, e := ip.Split(p, mtu); e != wantErr || !slices.EqualFunc(l, want, same) {
		t.Errorf("%s: Split at %d: %s, error %d; want %s, error %d", name, mtu, brief(l), e, brief(want), wantErr)
	}
}

// piece is p with another Off, More and Body.
func piece(p api.Packet, off int, more bool, body string) api.Packet {
	p.Off, p.More, p.Body = off, more, []byte(body)
	return p
}

// P10.3, Split: the pieces' Bodies, Offs and More, and all else as p has it.
func TestSplit(t *testing.T) {
	p := api.Packet{Src: 1, Dst: 2, Proto: 3, TTL: 4, ID: 5, Body: []byte("0123456789abcdefghij")}
	wantSplit(t, "just as many", p, 40, api.OK, p)
	wantSplit(t, "many", p, 1500, api.OK, p)
	wantSplit(t, "very many", p, math.MaxInt, api.OK, p)
	two := []api.Packet{piece(p, 0, true, "0123456789abcdef"), piece(p, 16, false, "ghij")}
	wantSplit(t, "one too few", p, 39, api.OK, two...)
	wantSplit(t, "sixteen", p, 36, api.OK, two...)
	three := []api.Packet{piece(p, 0, true, "01234567"), piece(p, 8, true, "89abcdef"), piece(p, 16, false, "ghij")}
	wantSplit(t, "fifteen", p, 35, api.OK, three...)
	wantSplit(t, "eight", p, 28, api.OK, three...)
	p.Body = p.Body[:16]
	wantSplit(t, "a last one that is full", p, 29, api.OK, three[0], piece(p, 8, false, "89abcdef"))
	p.Body = nil
	wantSplit(t, "no Body", p, 28, api.OK, p)
}

// P10.3, Split: of a piece, Offs go on from its own, and the last one has More if it has.
func TestSplitOfAPiece(t *testing.T) {
	p := api.Packet{ID: 5, Off: 64, More: true, Body: []byte("0123456789abcdef")}
	wantSplit(t, "More", p, 28, api.OK, piece(p, 64, true, "01234567"), piece(p, 72, true, "89abcdef"))
	wantSplit(t, "whole", p, 36, api.OK, p)
	p.More = false
	wantSplit(t, "the last one", p, 28, api.OK, piece(p, 64, true, "01234567"), piece(p, 72, false, "89abcdef"))
	p.Off = 65496
	wantSplit(t, "the last place", p, 28, api.OK, piece(p, 65496, true, "01234567"), piece(p, 65504, false, "89abcdef"))
}

// P10.3, Split: each but the last has as many bytes as the others, so the last one never has more.
func TestSplitWhereTheRestWouldFit(t *testing.T) {
	p := api.Packet{Body: []byte("0123456789abcdefgh")}
	wantSplit(t, "ten would fit", p, 30, api.OK, piece(p, 0, true, "01234567"), piece(p, 8, true, "89abcdef"), piece(p, 16, false, "gh"))
}

// P10.3 and P2, Split: which error is told first.
func TestSplitRefuses(t *testing.T) {
	p := api.Packet{Dont: true, Body: []byte("0123456789abcdefghij")}
	wantSplit(t, "Dont", p, 39, api.ErrFull)
	wantSplit(t, "Dont", p, 28, api.ErrFull)
	wantSplit(t, "Dont, but whole", p, 40, api.OK, p)
	for _, mtu := range []int{27, 20, 8, 0, -1, math.MinInt} {
		wantSplit(t, "mtu", p, mtu, api.ErrArg)
		wantSplit(t, "mtu, no Body", api.Packet{}, mtu, api.ErrArg)
		wantSplit(t, "Put's limit", api.Packet{Body: make([]byte, 65516)}, mtu, api.ErrLimit)
	}
	for _, mtu := range []int{math.MinInt, 28, 1500, math.MaxInt} {
		wantSplit(t, "Put's limit", api.Packet{Dont: true, Body: make([]byte, 65516)}, mtu, api.ErrLimit)
		wantSplit(t, "Put's limit", api.Packet{Off: 65520}, mtu, api.ErrLimit)
		wantSplit(t, "Off", api.Packet{Off: 4, Dont: true, Body: make([]byte, 65516)}, mtu, api.ErrArg)
		wantSplit(t, "Off", api.Packet{Off: -8}, mtu, api.ErrArg)
		wantSplit(t, "More", api.Packet{More: true, Body: make([]byte, 9)}, mtu, api.ErrArg)
	}
}

// P10.7: pieces laid one behind the other by their Offs are the Body; each has at most mtu bytes, and may be.
func TestPiecesAreTheBody(t *testing.T) {
	draw := draws(107)
	for i := range 2000 {
		p := drawPacket(draw)
		p.Dont = false
		if i%50 == 0 {
			p.Off, p.Body = 0, drawBytes(draw, 65512)
		}
		mtu := 28 + int(draw()%70)
		l, e := ip.Split(p, mtu)
		if e != api.OK || len(l) == 0 {
			t.Fatalf("%d bytes at %d: %d pieces, error %d", len(p.Body), mtu, len(l), e)
		}
		var body []byte
		for j, q := range l {
			b, e := ip.Put(q)
			if e != api.OK || len(b) > mtu {
				t.Fatalf("piece %d at %d: %d bytes, error %d", j, mtu, len(b), e)
			}
			last := j == len(l)-1
			if q.Off != p.Off+len(body) || !last && len(q.Body) != (mtu-20)/8*8 || q.More != (p.More || !last) {
				t.Fatalf("piece %d of %d at %d: %s", j, len(l), mtu, brief(q))
			}
			if len(l) > 1 && len(q.Body) == 0 {
				t.Fatalf("piece %d is empty", j)
			}
			body = append(body, q.Body...)
			q.Off, q.More, q.Body = p.Off, p.More, p.Body
			if !same(p, q) {
				t.Fatalf("piece %d is of another packet: %s", j, brief(q))
			}
		}
		if !bytes.Equal(body, p.Body) {
			t.Fatalf("%d bytes at %d: %d come together", len(p.Body), mtu, len(body))
		}
	}
}

// P3, Split: no piece reaches into the room of another one, whatever is laid behind it.
func TestPiecesShareNothing(t *testing.T) {
	p := api.Packet{Body: []byte("0123456789abcdefghij")}
	l, _ := ip.Split(p, 28)
	m, _ := ip.Split(p, 28)
	for i := range l {
		l[i].Body = append(l[i].Body, "more"...)
		scribble(l[i].Body)
		for j := range l {
			if j > i && !bytes.Equal(l[j].Body, m[j].Body) {
				t.Fatalf("piece %d reaches into piece %d: %q", i, j, l[j].Body)
			}
		}
	}
	for i := range m {
		scribble(m[i].Body)
		for j := i + 1; j < len(m); j++ {
			if want := p.Body[8*j : min(8*j+8, 20)]; !bytes.Equal(m[j].Body, want) {
				t.Fatalf("piece %d has room in piece %d: %q", i, j, m[j].Body)
			}
		}
	}
	if string(p.Body) != "0123456789abcdefghij" {
		t.Fatalf("what was handed in was changed: %q", p.Body)
	}
}
