package streams_test

import (
	"slices"
	"testing"

	"trunkline/api"
	"trunkline/streams"
)

// model is streams as the chapter's words have them, gone through one by one.
type model struct {
	next    [api.MaxStreams]uint16
	ins     int
	held    []api.Chunk
	waiting [][]api.Chunk
}

func (m *model) fork() *model {
	other := *m
	other.held = slices.Clone(m.held)
	other.waiting = slices.Clone(m.waiting)
	return &other
}

func (m *model) count() (int, int) {
	n, size := 0, 0
	for _, l := range append([][]api.Chunk{m.held}, m.waiting...) {
		for _, c := range l {
			n++
			size += len(c.Data)
		}
	}
	return n, size
}

func (m *model) find(tsn uint32) int {
	return slices.IndexFunc(m.held, func(c api.Chunk) bool { return c.TSN == tsn })
}

// message is the whole message that begins with a piece; none, if there is none.
func (m *model) message(first api.Chunk) []api.Chunk {
	if first.Flags&2 == 0 {
		return nil
	}
	l := []api.Chunk{first}
	for l[len(l)-1].Flags&1 == 0 {
		i := m.find(first.TSN + uint32(len(l)))
		if i < 0 {
			return nil
		}
		c := m.held[i]
		if c.Flags&2 != 0 || c.Stream != first.Stream || c.Flags&4 != first.Flags&4 || c.Flags&4 == 0 && c.SSN != first.SSN {
			return nil
		}
		l = append(l, c)
	}
	return l
}

func message(l []api.Chunk) api.Msg {
	m := api.Msg{Stream: l[0].Stream, SSN: l[0].SSN, PPID: l[0].PPID, Free: l[0].Flags&4 != 0}
	if m.Free {
		m.SSN = 0
	}
	for _, c := range l {
		m.Data = append(m.Data, c.Data...)
	}
	return m
}

func (m *model) add(c api.Chunk) ([]api.Msg, api.Errno) {
	switch n, _ := m.count(); {
	case int(c.Stream) >= m.ins:
		return nil, api.ErrStream
	case m.find(c.TSN) >= 0:
		return nil, api.ErrKnown
	case n == 128:
		return nil, api.ErrFull
	}
	m.held = append(m.held, c)
	for _, first := range m.held {
		if l := m.message(first); l != nil {
			m.held = slices.DeleteFunc(m.held, func(c api.Chunk) bool { return c.TSN-first.TSN < uint32(len(l)) })
			return m.whole(l), api.OK
		}
	}
	return nil, api.OK
}

func (m *model) whole(l []api.Chunk) []api.Msg {
	first := l[0]
	if first.Flags&4 != 0 {
		return []api.Msg{message(l)}
	}
	if back := m.next[first.Stream] - first.SSN; back > 0 && back < 1<<15 {
		return nil
	}
	m.waiting = slices.DeleteFunc(m.waiting, func(w []api.Chunk) bool { return w[0].Stream == first.Stream && w[0].SSN == first.SSN })
	m.waiting = append(m.waiting, l)
	var told []api.Msg
	for {
		i := slices.IndexFunc(m.waiting, func(w []api.Chunk) bool {
			return w[0].Stream == first.Stream && w[0].SSN == m.next[first.Stream]
		})
		if i < 0 {
			return told
		}
		told = append(told, message(m.waiting[i]))
		m.waiting = slices.Delete(m.waiting, i, i+1)
		m.next[first.Stream]++
	}
}

// P13.2, P13.3, P13.5, P13.6 and P4: pieces by chance, near one another, held against the model.
func TestModel(t *testing.T) {
	draw := draws(13)
	seen := map[api.Errno]int{}
	longest, most := 0, 0
	for round := range 300 {
		ins := int(draw()%3) + 1
		s, m := make1(t, ins), &model{ins: ins}
		span := []uint64{12, 40, 300}[round%3]
		base := uint32(draw())
		if round%2 == 0 {
			base = -uint32(span / 2)
		}
		for range 600 {
			c := api.Chunk{Flags: uint8(draw()), TSN: base + uint32(draw()%span), Stream: uint16(draw() % 3), SSN: uint16(draw() % 6), PPID: uint32(draw() % 5), Data: []byte("0123456789")[:draw()%10+1]}
			if draw()%2 == 0 { // mostly of one kind, so that pieces fit
				c.Flags, c.Stream, c.SSN = c.Flags&3, 0, m.next[0]
			}
			got, e := s.Add(c)
			want, wantErr := m.add(c)
			if e != wantErr || !slices.EqualFunc(got, want, same) {
				t.Fatalf("Add(%s): %s, error %d; want %s, error %d", brief(c), brief(got), e, brief(want), wantErr)
			}
			seen[e]++
			longest = max(longest, len(got))
			n, size := m.count()
			most = max(most, n)
			wantHeld(t, s, n, size)
			for stream := range ins {
				wantNext(t, s, stream, m.next[stream], api.OK)
			}
			if draw()%50 == 0 { // go on with the Fork, the other one is spoilt
				kept, left := s.Fork(), s
				s = kept
				for n := range uint32(3) {
					left.Add(api.Chunk{Flags: 3, TSN: base + n, SSN: m.next[0], Data: []byte("spoilt")})
				}
				m = m.fork()
			}
		}
	}
	for _, e := range []api.Errno{api.OK, api.ErrStream, api.ErrKnown, api.ErrFull} {
		if seen[e] < 100 {
			t.Errorf("error %d came %d times", e, seen[e])
		}
	}
	if longest < 3 || most != api.MaxHeld {
		t.Errorf("at most %d messages at once, %d pieces held", longest, most)
	}
}

// cut is messages in pieces, by chance, with TSNs that go up by one.
func cut(draw func() uint64, ins, count int) ([]api.Msg, []api.Chunk) {
	var sent []api.Msg
	var pieces []api.Chunk
	var next [api.MaxStreams]uint16
	tsn := uint32(draw())
	for range count {
		m := api.Msg{Stream: uint16(draw() % uint64(ins)), PPID: uint32(draw()), Free: draw()%4 == 0}
		if !m.Free {
			m.SSN = next[m.Stream]
			next[m.Stream]++
		}
		parts := int(draw()%4) + 1
		for part := range parts {
			c := api.Chunk{TSN: tsn, Stream: m.Stream, SSN: m.SSN, PPID: m.PPID, Data: []byte{byte(draw()), byte(draw())}}
			if part == 0 {
				c.Flags |= api.FlagBegin
			}
			if part == parts-1 {
				c.Flags |= api.FlagEnd
			}
			if m.Free {
				c.Flags |= api.FlagFree
			}
			m.Data = append(m.Data, c.Data...)
			pieces = append(pieces, c)
			tsn++
		}
		sent = append(sent, m)
	}
	return sent, pieces
}

// only is those messages that are free, or those of a stream that are not.
func only(l []api.Msg, free bool, stream uint16) []api.Msg {
	return slices.DeleteFunc(slices.Clone(l), func(m api.Msg) bool {
		return m.Free != free || !free && m.Stream != stream
	})
}

// P13.4 and P13.5: in whichever order pieces come, each stream is told in its order, and all is told in the end, each message once and as it was.
func TestAnyOrder(t *testing.T) {
	draw := draws(134)
	for range 400 {
		ins := int(draw()%api.MaxStreams) + 1
		sent, pieces := cut(draw, ins, 32) // at most 128 pieces
		for i := range pieces {
			k := i + int(draw()%uint64(len(pieces)-i))
			pieces[i], pieces[k] = pieces[k], pieces[i]
		}
		s := make1(t, ins)
		var got []api.Msg
		for _, c := range pieces {
			l, e := s.Add(c)
			if e != api.OK {
				t.Fatalf("error %d", e)
			}
			got = append(got, l...)
		}
		wantHeld(t, s, 0, 0)
		for stream := range uint16(ins) {
			if a, b := only(got, false, stream), only(sent, false, stream); !slices.EqualFunc(a, b, same) {
				t.Fatalf("stream %d: %s; want %s", stream, brief(a), brief(b))
			}
		}
		a, b := only(got, true, 0), only(sent, true, 0)
		if len(a) != len(b) {
			t.Fatalf("%d free messages; want %d", len(a), len(b))
		}
		for _, m := range a { // which of them comes first is free
			i := slices.IndexFunc(b, func(x api.Msg) bool { return same(x, m) })
			if i < 0 {
				t.Fatalf("%s was not sent", brief(m))
			}
			b = slices.Delete(b, i, i+1)
		}
	}
}

// P6: what is answered hangs on what was given alone.
func TestSameAgain(t *testing.T) {
	run := func() [][]api.Msg {
		draw := draws(6)
		s, _ := streams.New(4)
		var all [][]api.Msg
		for range 3000 {
			l, _ := s.Add(api.Chunk{Flags: uint8(draw() % 8), TSN: uint32(draw() % 60), Stream: uint16(draw() % 4), SSN: uint16(draw() % 8), Data: []byte{byte(draw())}})
			all = append(all, l)
		}
		return all
	}
	first := run()
	for range 3 {
		if !slices.EqualFunc(run(), first, func(a, b []api.Msg) bool { return slices.EqualFunc(a, b, same) }) {
			t.Fatal("the same pieces told something else")
		}
	}
}

// P1 and P2: chunks of all types, with any fields: none panics, and who is refused changes nothing.
func TestAnyChunks(t *testing.T) {
	draw := draws(1)
	s := make1(t, 8)
	for round := range 20000 {
		c := api.Chunk{Type: uint8(draw() % 16), Flags: uint8(draw()), TSN: uint32(draw() % 9), Stream: uint16(draw() % 10), SSN: uint16(draw() % 3)}
		if round%4 == 0 {
			c = api.Chunk{Type: uint8(draw()), TSN: uint32(draw()), Stream: uint16(draw()), Tag: uint32(draw() % 2), Ins: uint16(draw() % 2), Blocks: make([][2]uint16, draw()%3*9), Dups: make([]uint32, draw()%3*9), Params: make([]api.Param, draw()%3*9)}
		}
		c.Data = make([]byte, draw()%3*800)
		n, size := s.Held()
		if l, e := s.Add(c); e != api.OK {
			if len(l) > 0 {
				t.Fatalf("error %d, and %s", e, brief(l))
			}
			wantHeld(t, s, n, size)
		}
	}
}
