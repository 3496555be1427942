package judge_test

import (
	"bytes"
	"fmt"
	"testing"

	"trunkline/api"
	"trunkline/judge"
)

// Side A is host 0 with the tags 1 and 2, side B the other one.
func sent(m api.Msg) api.Mark { return api.Mark{Is: api.Sent, Own: 1, Peer: 2, Msg: m} }
func got(m api.Msg) api.Mark  { return api.Mark{Is: api.Got, Host: 1, Own: 2, Peer: 1, Msg: m} }
func told(n api.Notice) api.Mark {
	return api.Mark{Is: api.Told, Own: 1, Peer: 2, Notice: n}
}

// back is a mark of the other side.
func back(m api.Mark) api.Mark {
	m.Host, m.Own, m.Peer = 1-m.Host, m.Peer, m.Own
	return m
}

var shutting = api.Mark{Is: api.Shutting, Own: 1, Peer: 2}

func msg(stream uint16, data string) api.Msg { return api.Msg{Stream: stream, Data: []byte(data)} }
func free(stream uint16, data string) api.Msg {
	return api.Msg{Stream: stream, Free: true, Data: []byte(data)}
}

func list(l ...api.Mark) []api.Mark { return l }

func wantJudged(t *testing.T, l []api.Mark, n int, e api.Errno) {
	t.Helper()
	if x, f := judge.Judge(l); x != n || f != e {
		t.Errorf("%+v:\n%d, error %d; want %d, error %d", l, x, f, n, e)
	}
}

func wantOK(t *testing.T, l ...api.Mark) {
	t.Helper()
	wantJudged(t, l, len(l), api.OK)
}

// wantLast: is the last mark the first one that may not be?
func wantLast(t *testing.T, e api.Errno, l ...api.Mark) {
	t.Helper()
	wantJudged(t, l, len(l)-1, e)
	wantOK(t, l[:len(l)-1]...)
	wantJudged(t, append(l, api.Mark{Host: 9}), len(l)-1, e) // what stands behind it plays no part
}

// P19.1: marks that are none.
func TestMarks(t *testing.T) {
	wantOK(t)
	wantJudged(t, nil, 0, api.OK)
	for _, host := range []int{-1, 2, 1 << 62, -1 << 63} {
		m := sent(msg(0, "a"))
		m.Host = host
		wantLast(t, api.ErrArg, m)
		m.Is = api.NoWhat // named behind
		wantLast(t, api.ErrArg, m)
	}
	for _, is := range []api.What{api.NoWhat, -1, api.Shutting + 1, 1 << 62} {
		wantLast(t, api.ErrType, sent(msg(0, "a")), api.Mark{Is: is, Own: 1, Peer: 2})
	}
}

// P19.1: what may be sent.
func TestSent(t *testing.T) {
	wantOK(t, sent(msg(0, "a")), sent(msg(0, "a")), sent(free(9, "")), sent(api.Msg{}))
	wantLast(t, api.ErrState, shutting, sent(msg(0, "a")))
	wantOK(t, shutting, back(sent(msg(0, "a"))))
	for _, n := range []api.Notice{api.Lost, api.Aborted, api.Again} {
		wantLast(t, api.ErrState, told(n), sent(msg(0, "a")))
		wantOK(t, told(n), back(sent(msg(0, "a"))))
	}
	wantLast(t, api.ErrState, told(api.Came), told(api.Done), sent(msg(0, "a")))
	wantOK(t, told(api.Came), sent(msg(0, "a")))
}

// P19.1, example 1: what is told in its order.
func TestGot(t *testing.T) {
	a, b := msg(1, "a"), msg(1, "b")
	wantJudged(t, list(sent(a), got(a)), 2, api.OK)
	wantJudged(t, list(sent(a), got(a), got(a)), 2, api.ErrGone)
	wantLast(t, api.ErrGone, got(a))
	wantJudged(t, list(got(a), sent(a)), 0, api.ErrGone)
	wantOK(t, sent(a), sent(b), got(a), got(b))
	wantLast(t, api.ErrForm, sent(a), sent(b), got(b))
	wantOK(t, sent(a), sent(a), got(a), got(a))
	// What is not free and what is free are no match.
	wantLast(t, api.ErrGone, sent(free(1, "a")), got(a))
	wantLast(t, api.ErrGone, sent(a), got(free(1, "a")))
	// Each stream has an order of its own.
	wantOK(t, sent(a), sent(msg(2, "c")), got(msg(2, "c")), got(a))
	wantLast(t, api.ErrGone, sent(a), got(msg(2, "a")))
	wantOK(t, sent(msg(65535, "a")), got(msg(65535, "a")))
	// Free ones stand in nobody's way.
	wantOK(t, sent(free(1, "f")), sent(a), got(a), got(free(1, "f")))
	// A side that ended, or is shutting down, is told what came.
	wantOK(t, sent(a), back(told(api.Lost)), got(a))
	wantOK(t, sent(a), back(shutting), got(a))
	wantOK(t, sent(a), told(api.Lost), got(a))
}

// P19.1: messages are alike by Stream, PPID, Free and Data.
func TestAlike(t *testing.T) {
	a := api.Msg{Stream: 1, SSN: 3, PPID: 5, Data: []byte("a")}
	for _, change := range []func(*api.Msg){
		func(m *api.Msg) { m.PPID = 6 },
		func(m *api.Msg) { m.Data = nil },
		func(m *api.Msg) { m.Data = []byte("b") },
		func(m *api.Msg) { m.Data = []byte("ab") },
	} {
		m, f := a, a
		change(&m)
		wantLast(t, api.ErrForm, sent(a), got(m))
		m.Free, f.Free = true, true
		wantLast(t, api.ErrGone, sent(f), got(m))
	}
	other := a
	other.SSN = 0
	wantOK(t, sent(a), got(other))
	f := free(1, "a")
	f.Stream = 2
	wantLast(t, api.ErrGone, sent(free(1, "a")), got(f))
	wantOK(t, sent(api.Msg{Data: []byte{}}), got(api.Msg{}))
	wantOK(t, sent(api.Msg{Free: true}), got(api.Msg{Free: true, Data: []byte{}}))
}

// P19.1: what is told free of order.
func TestGotFree(t *testing.T) {
	a, b := free(1, "a"), free(1, "b")
	wantOK(t, sent(a), sent(b), got(b), got(a))
	wantLast(t, api.ErrGone, got(a))
	wantLast(t, api.ErrGone, sent(a), got(b))
	wantLast(t, api.ErrGone, sent(a), got(a), got(a))
	wantOK(t, sent(a), got(a), sent(a), got(a))
	wantOK(t, sent(a), sent(a), got(a), got(a))
	wantLast(t, api.ErrGone, sent(a), sent(a), got(a), got(a), got(a))
}

// P19.1: sides are told apart by host and tags.
func TestSides(t *testing.T) {
	a := msg(1, "a")
	for _, m := range []api.Mark{
		{Is: api.Got, Host: 0, Own: 1, Peer: 2, Msg: a}, // who sent it
		{Is: api.Got, Host: 0, Own: 2, Peer: 1, Msg: a},
		{Is: api.Got, Host: 1, Own: 1, Peer: 2, Msg: a},
		{Is: api.Got, Host: 1, Own: 2, Peer: 3, Msg: a},
		{Is: api.Got, Host: 1, Own: 3, Peer: 1, Msg: a},
	} {
		wantLast(t, api.ErrGone, sent(a), m)
	}
	wantOK(t, sent(a), back(sent(a)), got(a), back(got(a)))
	same := api.Mark{Is: api.Sent, Own: 4, Peer: 4, Msg: a}
	other := back(same)
	other.Is = api.Got
	wantOK(t, same, other)
	// What ends one association ends no other one.
	third := sent(a)
	third.Own = 5
	wantOK(t, told(api.Lost), third, back(sent(a)))
}

// P19.1: notices.
func TestTold(t *testing.T) {
	for _, n := range []api.Notice{api.NoNotice, -1, api.Again + 1, 1 << 62} {
		wantLast(t, api.ErrArg, told(n))
		wantLast(t, api.ErrArg, told(api.Lost), told(n)) // named ahead of ErrKnown
	}
	wantOK(t, told(api.Came))
	wantLast(t, api.ErrKnown, told(api.Came), told(api.Came))
	wantLast(t, api.ErrState, told(api.Done))
	wantOK(t, told(api.Came), told(api.Done))
	wantLast(t, api.ErrState, back(told(api.Came)), told(api.Done))
	for _, end := range []api.Notice{api.Lost, api.Aborted, api.Again} {
		wantOK(t, told(end), back(told(end)))
		wantOK(t, told(api.Came), told(end))
		for n := api.Came; n <= api.Again; n++ {
			wantLast(t, api.ErrKnown, told(end), told(n))
			wantLast(t, api.ErrKnown, told(api.Came), told(end), told(n))
		}
	}
	for n := api.Came; n <= api.Again; n++ {
		wantLast(t, api.ErrKnown, told(api.Came), told(api.Done), told(n))
	}
}

// P19.1: shutting down.
func TestShutting(t *testing.T) {
	wantOK(t, shutting, back(shutting))
	wantLast(t, api.ErrKnown, shutting, shutting)
	wantLast(t, api.ErrState, told(api.Lost), shutting)
	wantLast(t, api.ErrKnown, shutting, told(api.Lost), shutting) // named first
	wantOK(t, shutting, told(api.Came), told(api.Done))
}

// P19.2: what is owed.
func TestOwed(t *testing.T) {
	want := func(l []api.Mark, host int, own, peer uint32, n int, ok bool) {
		t.Helper()
		if x, is := judge.Owed(l, host, own, peer); x != n || is != ok {
			t.Errorf("owed %d, %v; want %d, %v", x, is, n, ok)
		}
	}
	a, f := msg(1, "a"), free(1, "f")
	l := list(sent(a), sent(f), sent(a), back(sent(a)), got(f))
	want(l, 0, 1, 2, 2, true)
	want(l, 1, 2, 1, 1, true)
	want(l, 0, 2, 1, 0, true)
	want(l, 0, 1, 3, 0, true)
	want(nil, 0, 1, 2, 0, true)
	for _, host := range []int{2, -1, -1 << 63} {
		want(l, host, 1, 2, 0, true)
	}
	want(append(l, got(f)), 0, 1, 2, 0, false)
	want(append(l, api.Mark{}), 0, 1, 2, 0, false)
	want(append(list(api.Mark{}), l...), 0, 1, 2, 0, false)
	want(append(l, got(a), got(a)), 0, 1, 2, 0, true)
	want(append(l, told(api.Lost)), 0, 1, 2, 2, true)
}

// P3: a trace stays as it is.
func TestMemory(t *testing.T) {
	l := list(sent(msg(1, "a")), sent(free(1, "f")), got(msg(1, "a")), got(free(1, "f")))
	before := fmt.Sprintf("%+v", l)
	spare := append(l[:len(l):len(l)], api.Mark{Host: 7})
	judge.Judge(spare[:len(l)])
	judge.Owed(spare[:len(l)], 0, 1, 2)
	if fmt.Sprintf("%+v", l) != before || spare[len(l)].Host != 7 {
		t.Fatal("a trace was changed")
	}
}

// side is a side by what it is.
type side [3]int

// plain judges by the words of the chapter, with all that was sent in one list for each side.
type plain struct {
	sent              map[side][]api.Msg
	told              map[side][]bool
	count             map[[4]int]int
	came, ended, shut map[side]bool
}

func alike(m, n api.Msg) bool {
	return m.Stream == n.Stream && m.PPID == n.PPID && m.Free == n.Free && bytes.Equal(m.Data, n.Data)
}

func (p *plain) got(s, o side, m api.Msg) api.Errno {
	if m.Free {
		for i, x := range p.sent[o] {
			if alike(x, m) && !p.told[o][i] {
				p.told[o][i] = true
				return api.OK
			}
		}
		return api.ErrGone
	}
	key := [4]int{s[0], s[1], s[2], int(m.Stream)}
	n := 0
	for i, x := range p.sent[o] {
		if x.Free || x.Stream != m.Stream {
			continue
		}
		if n == p.count[key] {
			if !alike(x, m) {
				return api.ErrForm
			}
			p.told[o][i] = true
			p.count[key]++
			return api.OK
		}
		n++
	}
	return api.ErrGone
}

func (p *plain) take(m api.Mark) api.Errno {
	if m.Host < 0 || m.Host > 1 {
		return api.ErrArg
	}
	s := side{m.Host, int(m.Own), int(m.Peer)}
	o := side{1 - m.Host, int(m.Peer), int(m.Own)}
	switch m.Is {
	case api.Sent:
		if p.shut[s] || p.ended[s] {
			return api.ErrState
		}
		p.sent[s] = append(p.sent[s], m.Msg)
		p.told[s] = append(p.told[s], false)
	case api.Got:
		return p.got(s, o, m.Msg)
	case api.Told:
		if m.Notice < api.Came || m.Notice > api.Again {
			return api.ErrArg
		}
		if p.ended[s] || p.came[s] && m.Notice == api.Came {
			return api.ErrKnown
		}
		if m.Notice == api.Came {
			p.came[s] = true
			return api.OK
		}
		if m.Notice == api.Done && !p.came[s] {
			return api.ErrState
		}
		p.ended[s] = true
	case api.Shutting:
		if p.shut[s] {
			return api.ErrKnown
		}
		if p.ended[s] {
			return api.ErrState
		}
		p.shut[s] = true
	default:
		return api.ErrType
	}
	return api.OK
}

func newPlain() *plain {
	return &plain{
		sent: map[side][]api.Msg{}, told: map[side][]bool{}, count: map[[4]int]int{},
		came: map[side]bool{}, ended: map[side]bool{}, shut: map[side]bool{},
	}
}

func numbers(seed uint64) func(below int) int {
	return func(below int) int {
		seed += 0x9e3779b97f4a7c15
		z := (seed ^ seed>>30) * 0xbf58476d1ce4e5b9
		z = (z ^ z>>27) * 0x94d049bb133111eb
		return int((z ^ z>>31) >> 1 % uint64(below))
	}
}

func someMark(below func(int) int) api.Mark {
	m := api.Mark{Is: api.What(1 + below(2)), Host: below(2), Own: uint32(below(2)), Peer: uint32(below(2))}
	if below(20) == 0 {
		m.Is = api.What(below(6))
	}
	if below(300) == 0 {
		m.Host = below(9) - 4
	}
	m.Notice = api.Notice(below(7))
	m.Msg = api.Msg{Stream: uint16(below(2)), SSN: uint16(below(9)), PPID: uint32(below(2)), Free: below(2) == 0, Data: make([]byte, below(2))}
	return m
}

// P19.1 to P19.3: traces of any marks, held against the chapter's words; those marks that may not be are left out, so that long ones may be.
func TestModel(t *testing.T) {
	for seed := range uint64(300) {
		below := numbers(seed)
		p := newPlain()
		var l []api.Mark
		for range 120 {
			m := someMark(below)
			e := p.take(m)
			n, f := judge.Judge(append(l[:len(l):len(l)], m))
			if e != f || e == api.OK && n != len(l)+1 || e != api.OK && n != len(l) {
				t.Fatalf("%d: %+v: %d, error %d; want %d behind %d marks", seed, m, n, f, e, len(l))
			}
			if e == api.OK {
				l = append(l, m)
			}
		}
		for s, all := range p.sent {
			owed := 0
			for i := range all {
				if !p.told[s][i] {
					owed++
				}
			}
			if n, ok := judge.Owed(l, s[0], uint32(s[1]), uint32(s[2])); n != owed || !ok {
				t.Fatal(seed, "owed", n, "; want", owed)
			}
		}
		wantBeginnings(t, l)
	}
}

// wantBeginnings: P19.3, and P19.4: at each place of a trace that may be, what is told on a stream begins what was sent on it, and what is told free was sent, each once.
func wantBeginnings(t *testing.T, l []api.Mark) {
	t.Helper()
	wantOK(t, l[:len(l)/3]...)
	wantOK(t, l...)
	rows := map[string][2][]string{}
	loose := map[string]int{}
	for _, m := range l {
		if m.Is != api.Sent && m.Is != api.Got {
			continue
		}
		x := 0
		from := side{m.Host, int(m.Own), int(m.Peer)}
		if m.Is == api.Got {
			x = 1
			from = side{1 - m.Host, int(m.Peer), int(m.Own)}
		}
		text := fmt.Sprint(m.Msg.PPID, m.Msg.Data)
		if m.Msg.Free {
			key := fmt.Sprint(from, m.Msg.Stream, text)
			loose[key] += 1 - 2*x
			if loose[key] < 0 {
				t.Fatal("told, and never sent:", key)
			}
			continue
		}
		key := fmt.Sprint(from, m.Msg.Stream)
		row := rows[key]
		row[x] = append(row[x], text)
		rows[key] = row
		if n := len(row[1]); n > len(row[0]) || x == 1 && row[0][n-1] != text {
			t.Fatal("told in another order:", key)
		}
	}
}

// A long trace is judged in a time that goes up with its length.
func TestLong(t *testing.T) {
	var l []api.Mark
	for i := range 100000 {
		l = append(l, sent(free(0, fmt.Sprint(i))), sent(msg(1, "x")))
	}
	for i := range 100000 {
		l = append(l, got(free(0, fmt.Sprint(99999-i))), got(msg(1, "x")))
	}
	wantJudgedLong(t, l)
}

func wantJudgedLong(t *testing.T, l []api.Mark) {
	t.Helper()
	if n, e := judge.Judge(l); n != len(l) || e != api.OK {
		t.Fatal("judged", n, e)
	}
	if n, ok := judge.Owed(l, 0, 1, 2); n != 0 || !ok {
		t.Fatal("owed", n, ok)
	}
}
