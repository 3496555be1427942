package outq_test

import (
	"bytes"
	"fmt"
	"slices"
	"testing"

	"trunkline/api"
	"trunkline/chunk"
	"trunkline/outq"
	"trunkline/streams"
)

// kept is a piece of the model.
type kept struct {
	c      api.Chunk
	how    byte // 'f'resh, 'a'ir, 's'end again, 't'aken
	way    int
	missed int
}

// model is a queue as the chapter's words have them; TSNs are counted from 1 on there, without going round.
type model struct {
	first uint32
	outs  int
	size  int
	cum   int
	last  int
	ssn   [api.MaxStreams]uint16
	all   map[int]*kept
}

func newModel(first uint32, outs, size int) *model {
	return &model{first: first, outs: outs, size: size, all: map[int]*kept{}}
}

// tsn is what a count is in the queue.
func (m *model) tsn(n int) uint32 { return m.first - 1 + uint32(n) }

func (m *model) fork() *model {
	other := *m
	other.all = map[int]*kept{}
	for n, k := range m.all {
		c := *k
		other.all[n] = &c
	}
	return &other
}

// sum is how many pieces, and bytes, there are of which is says so.
func (m *model) sum(is func(k *kept) bool) (int, int) {
	n, size := 0, 0
	for _, k := range m.all {
		if is(k) {
			n++
			size += len(k.c.Data)
		}
	}
	return n, size
}

func (m *model) left() (int, int) { return m.sum(func(k *kept) bool { return true }) }

func (m *model) flight(way int) int {
	_, size := m.sum(func(k *kept) bool { return k.how == 'a' && k.way == way })
	return size
}

func (m *model) push(x api.Msg) api.Errno {
	_, size := m.left()
	switch {
	case int(x.Stream) >= m.outs:
		return api.ErrStream
	case len(x.Data) == 0 || len(x.Data) > 4096:
		return api.ErrLimit
	case size+len(x.Data) > 8192:
		return api.ErrFull
	}
	count := (len(x.Data) + m.size - 1) / m.size
	for i := range count {
		m.last++
		c := api.Chunk{TSN: m.tsn(m.last), Stream: x.Stream, PPID: x.PPID, Data: x.Data[i*m.size : min(len(x.Data), (i+1)*m.size)]}
		if i == 0 {
			c.Flags += 2
		}
		if i == count-1 {
			c.Flags += 1
		}
		if x.Free {
			c.Flags += 4
		} else {
			c.SSN = m.ssn[x.Stream]
		}
		m.all[m.last] = &kept{c: c, how: 'f'}
	}
	if !x.Free {
		m.ssn[x.Stream]++
	}
	return api.OK
}

func (m *model) send(way, room, most int) []api.Chunk {
	var out []api.Chunk
	size := 0
	for _, how := range []byte{'s', 'f'} {
		for n := m.cum + 1; n <= m.last; n++ {
			k := m.all[n]
			if k.how != how {
				continue
			}
			flying, air := m.sum(func(k *kept) bool { return k.how == 'a' })
			size += 16 + (len(k.c.Data)+3)/4*4
			if size > most || len(out) == 16 || how == 'f' && air+len(k.c.Data) > room && flying > 0 {
				return out
			}
			k.how, k.way, k.missed = 'a', way, 0
			out = append(out, k.c)
		}
	}
	return out
}

func (m *model) top() int {
	top := m.cum
	for n, k := range m.all {
		if k.how != 'f' {
			top = max(top, n)
		}
	}
	return top
}

// sack takes an acknowledgement whose TSN is a count.
func (m *model) sack(n int, blocks [][2]uint16) (api.Acked, api.Errno) {
	if n < m.cum {
		return api.Acked{}, api.ErrStale
	}
	if n > m.top() {
		return api.Acked{}, api.ErrArg
	}
	in := map[int]bool{}
	for _, b := range blocks {
		if b[0] < 2 || b[1] < b[0] || n+int(b[1]) > m.top() {
			return api.Acked{}, api.ErrArg
		}
		for i := int(b[0]); i <= int(b[1]); i++ {
			in[n+i] = true
		}
	}
	a := api.Acked{Moved: n != m.cum}
	came := func(k *kept) {
		if k.how == 'a' {
			a.Bytes[k.way] += len(k.c.Data)
		}
	}
	for i := m.cum + 1; i <= n; i++ {
		came(m.all[i])
		delete(m.all, i)
	}
	m.cum = n
	var fresh []int // those that were taken just now
	for i, k := range m.all {
		if in[i] && k.how != 't' {
			came(k)
			k.how = 't'
			fresh = append(fresh, i)
		} else if !in[i] && k.how == 't' {
			k.how = 's'
		}
	}
	for i, k := range m.all {
		if k.how == 'a' && slices.ContainsFunc(fresh, func(x int) bool { return x > i }) {
			k.missed++
			if k.missed == 3 {
				k.how = 's'
				a.Fast = true
			}
		}
	}
	return a, api.OK
}

func (m *model) expire(way int) int {
	n := 0
	for _, k := range m.all {
		if k.how == 'a' && k.way == way {
			k.how = 's'
			n++
		}
	}
	return n
}

// drawSack is where a Sack's TSN is, and its blocks; some of them may not be.
func drawSack(draw func() uint64, m *model) (int, [][2]uint16) {
	reach := m.top() - m.cum
	n := m.cum
	if draw()%3 == 0 {
		n += int(draw() % uint64(reach+1))
	}
	switch draw() % 40 {
	case 0:
		n = m.top() + 1
	case 1:
		n = m.cum - 1 - int(draw()%3)
	}
	var blocks [][2]uint16
	for range draw() % 4 {
		first := 2 + int(draw()%uint64(reach+2))
		last := first + int(draw()%3)
		if draw()%20 > 0 {
			last = min(last, m.top()-n)
		}
		if last >= first || draw()%20 == 0 {
			blocks = append(blocks, [2]uint16{uint16(first), uint16(max(0, last))})
		}
	}
	return n, blocks
}

// P14.1 to P14.4, P14.7 and P4: what is done by chance, held against the model.
func TestModel(t *testing.T) {
	draw := draws(14)
	seen := map[string]int{}
	for round := range 100 {
		size := []int{1, 3, 4, 100, 1452}[round%5]
		outs := int(draw()%8) + 1
		first := uint32(draw())
		if round%2 == 0 {
			first = -uint32(draw() % 20)
		}
		q, m := make1(t, first, outs, size), newModel(first, outs, size)
		for range 300 {
			act(t, draw, q, m, seen)
			n, b := m.left()
			wantLeft(t, q, n, b)
			wantCum(t, q, m.tsn(m.cum))
			wantFlight(t, q, m.flight(0), m.flight(1))
			if draw()%40 == 0 { // go on with the Fork, the other one is spoilt
				left := q
				q, m = q.Fork(), m.fork()
				left.Push(msg("spoilt"))
				left.Send(1, plenty, plenty)
				left.Expire(0)
				left.Sack(sack(left.Cum() + 1))
			}
		}
	}
	for _, what := range []string{"push 0", "push 6", "push 10", "push 14", "sack 0", "sack 2", "sack 8", "fast", "moved", "again"} {
		if seen[what] < 100 {
			t.Errorf("%s came %d times", what, seen[what])
		}
	}
}

// act does something by chance to both.
func act(t *testing.T, draw func() uint64, q *outq.Queue, m *model, seen map[string]int) {
	t.Helper()
	note := func(what string, e api.Errno) { seen[fmt.Sprint(what, " ", int(e))]++ }
	switch draw() % 8 {
	case 0, 1:
		x := api.Msg{Stream: uint16(draw() % 9), SSN: uint16(draw()), PPID: uint32(draw()), Free: draw()%3 == 0, Data: drawBytes(draw, int(draw()%uint64(4*m.size+1)))}
		if draw()%30 == 0 || m.size > 99 && draw()%3 == 0 {
			x.Data = drawBytes(draw, int(draw()%4200))
		}
		e := m.push(x)
		wantPush(t, q, x, e)
		note("push", e)
	case 2, 3, 4:
		way, room, most := int(draw()%2), int(draw()%uint64(20*m.size)), int(draw()%uint64(20*m.size+400))
		wantSend(t, q, way, room, most, m.send(way, room, most)...)
	case 5, 6:
		n, blocks := drawSack(draw, m)
		c := sack(m.tsn(n), blocks...)
		a, e := m.sack(n, blocks)
		if e != api.OK {
			wantSackErr(t, q, c, e)
		} else {
			wantSack(t, q, c, a)
		}
		note("sack", e)
		if a.Fast {
			seen["fast"]++
		}
		if a.Moved {
			seen["moved"]++
		}
	case 7:
		if draw()%3 == 0 {
			way := int(draw() % 2)
			n := m.expire(way)
			wantExpire(t, q, way, n, api.OK)
			seen["again"] += n
		}
	}
}

func sameMsg(a, b api.Msg) bool {
	return a.Stream == b.Stream && a.SSN == b.SSN && a.PPID == b.PPID && a.Free == b.Free && bytes.Equal(a.Data, b.Data)
}

// line carries pieces from a queue to streams and loses some of both ways.
type line struct {
	t    *testing.T
	q    *outq.Queue
	in   *streams.Streams
	came map[uint32]api.Chunk // each piece that was ever sent, whether it was lost or not
	cum  uint32
	have map[uint32]int // TSNs that came, ahead of cum
	told []api.Msg
}

// carry sends what may go, of which each piece is lost if lost says so.
func (l *line) carry(way, room, most int, lost func() bool) {
	l.t.Helper()
	sent, e := l.q.Send(way, room, most)
	if e != api.OK {
		l.t.Fatalf("Send: error %d", e)
	}
	size := 0
	for _, c := range sent {
		size += chunk.Size(c)
		if before, known := l.came[c.TSN]; known && !same(before, c) {
			l.t.Fatalf("TSN %d is %s, and was %s", c.TSN, brief(c), brief(before))
		}
		l.came[c.TSN] = c
		ahead := c.TSN - l.cum
		if lost() || ahead == 0 || ahead > 1<<31 || l.have[c.TSN] > 0 {
			continue
		}
		l.have[c.TSN] = 1
		got, e := l.in.Add(c)
		if e != api.OK {
			l.t.Fatalf("Add: error %d", e)
		}
		l.told = append(l.told, got...)
	}
	if size > most || len(sent) > api.MaxPieces {
		l.t.Fatalf("%d pieces of %d bytes at once", len(sent), size)
	}
	for l.have[l.cum+1] > 0 {
		l.cum++
		delete(l.have, l.cum)
	}
}

// blocks are the runs of what came ahead of cum, as far as may be told.
func (l *line) blocks() [][2]uint16 {
	var out [][2]uint16
	for n := uint16(2); n < 400; n++ {
		if l.have[l.cum+uint32(n)] == 0 {
			continue
		}
		if len(out) > 0 && out[len(out)-1][1] == n-1 {
			out[len(out)-1][1] = n
		} else if len(out) < api.MaxBlocks {
			out = append(out, [2]uint16{n, n})
		} else {
			break
		}
	}
	return out
}

// wantAll asks that the pieces that were sent, by their TSNs, are the messages, and that they were told.
func (l *line) wantAll(first uint32, pushed []api.Msg, outs int) {
	l.t.Helper()
	var made []api.Msg
	var m api.Msg
	for n := range uint32(len(l.came)) {
		c, there := l.came[first+n]
		if !there {
			l.t.Fatalf("TSN %d was never sent", first+n)
		}
		if c.Flags&api.FlagBegin != 0 {
			m = api.Msg{Stream: c.Stream, SSN: c.SSN, PPID: c.PPID, Free: c.Flags&api.FlagFree != 0}
		}
		m.Data = append(m.Data, c.Data...)
		if c.Flags&api.FlagEnd != 0 {
			made = append(made, m)
		}
	}
	if !slices.EqualFunc(made, pushed, sameMsg) {
		l.t.Fatal("the pieces are not the messages")
	}
	for stream := range uint16(outs) {
		of := func(l []api.Msg) []api.Msg {
			return slices.DeleteFunc(slices.Clone(l), func(m api.Msg) bool { return m.Free || m.Stream != stream })
		}
		if !slices.EqualFunc(of(l.told), of(pushed), sameMsg) {
			l.t.Fatalf("stream %d was told otherwise", stream)
		}
	}
	if len(l.told) != len(pushed) {
		l.t.Fatalf("%d messages were told, %d pushed", len(l.told), len(pushed))
	}
}

// P14.5, P14.6 and P14.7: messages over a line that loses pieces and acknowledgements: all is told, each piece is ever the same, and nothing is left.
func TestLine(t *testing.T) {
	draw := draws(146)
	for round := range 150 {
		outs, size := int(draw()%8)+1, []int{7, 40, 160, 1452}[round%4]
		first := -uint32(draw() % 30)
		in, _ := streams.New(outs)
		l := &line{t: t, q: make1(t, first, outs, size), in: in, came: map[uint32]api.Chunk{}, cum: first - 1, have: map[uint32]int{}}
		var pushed []api.Msg
		var ssn [api.MaxStreams]uint16
		lost := func() bool { return draw()%5 == 0 }
		for len(pushed) < 60 {
			m := api.Msg{Stream: uint16(draw() % uint64(outs)), PPID: uint32(draw()), Free: draw()%4 == 0, Data: drawBytes(draw, int(draw()%uint64(5*size))%4096+1)}
			n, before := l.q.Left()
			if e := l.q.Push(m); e == api.OK {
				if !m.Free {
					m.SSN = ssn[m.Stream]
					ssn[m.Stream]++
				}
				pushed = append(pushed, m)
			} else if k, b := l.q.Left(); e != api.ErrFull || k != n || b != before {
				t.Fatalf("Push: error %d", e)
			}
			if _, b := l.q.Left(); b > api.MaxSend {
				t.Fatalf("%d bytes", b)
			}
			l.round(draw, 60*size, lost)
		}
		for n := 0; ; n++ {
			if k, _ := l.q.Left(); k == 0 {
				break
			}
			if n > 5000 {
				t.Fatal("it does not end")
			}
			l.round(draw, 60*size, lost)
		}
		l.wantAll(first, pushed, outs)
	}
}

// round sends once, and has it acknowledged, if that is not lost; now and then a way is late.
func (l *line) round(draw func() uint64, room int, lost func() bool) {
	l.t.Helper()
	l.carry(int(draw()%2), room, 1468, lost)
	if !lost() {
		if _, e := l.q.Sack(sack(l.cum, l.blocks()...)); e != api.OK {
			l.t.Fatalf("Sack: error %d", e)
		}
	}
	if draw()%4 == 0 {
		if _, e := l.q.Expire(int(draw() % 2)); e != api.OK {
			l.t.Fatalf("Expire: error %d", e)
		}
	}
}

// P1 and P2: chunks of all types, with any fields: none panics, and who is refused changes nothing.
func TestAnyChunks(t *testing.T) {
	draw := draws(1)
	q := flown(t, 40)
	for range 20000 {
		c := api.Chunk{Type: uint8(draw() % 8), Flags: uint8(draw()), TSN: uint32(draw()%50) - 5, Room: uint32(draw()), Blocks: make([][2]uint16, draw()%18), Dups: make([]uint32, draw()%18)}
		if draw()%2 == 0 {
			c.Type = api.Sack
		}
		if draw()%8 == 0 {
			c.TSN, c.Data, c.Params, c.Tag = uint32(draw()), make([]byte, draw()%2000), make([]api.Param, draw()%18), uint32(draw()%2)
		}
		for i := range c.Blocks {
			first := uint16(draw()%1000/25) + 1
			c.Blocks[i] = [2]uint16{first, first + uint16(draw()%4)}
		}
		n, size := q.Left()
		cum, first, second := q.Cum(), q.Flight(0), q.Flight(1)
		if _, e := q.Sack(c); e != api.OK {
			wantLeft(t, q, n, size)
			wantCum(t, q, cum)
			wantFlight(t, q, first, second)
		}
		if draw()%4 == 0 {
			q.Push(msg("more"))
			q.Send(int(draw()%2), int(draw()%60), int(draw()%400))
		}
	}
}
