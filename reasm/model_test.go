package reasm_test

import (
	"bytes"
	"testing"

	"trunkline/api"
	"trunkline/ip"
	"trunkline/reasm"
)

// model is a pool as the chapter tells it, place by place.
type model struct {
	now, dropped int
	packets      []*modelPacket
}

type modelPacket struct {
	src, dst uint32
	proto    uint8
	id       uint16
	since    int
	pieces   []api.Packet
}

func (m *model) find(p api.Packet) int {
	for i, x := range m.packets {
		if x.src == p.Src && x.dst == p.Dst && x.proto == p.Proto && x.id == p.ID {
			return i
		}
	}
	return -1
}

func (m *model) remove(i int) { m.packets = append(m.packets[:i:i], m.packets[i+1:]...) }

// isThere: is the very same piece there?
func (x *modelPacket) isThere(p api.Packet) bool {
	for _, q := range x.pieces {
		if q.Off == p.Off && q.More == p.More && bytes.Equal(q.Body, p.Body) {
			return true
		}
	}
	return false
}

// places is which places of a packet have a byte, and whose end is where (0: nowhere).
func (x *modelPacket) places() (has [api.MaxDatagram]bool, body [api.MaxDatagram]byte, end int) {
	for _, q := range x.pieces {
		for i, b := range q.Body {
			has[q.Off+i], body[q.Off+i] = true, b
		}
		if !q.More {
			end = q.Off + len(q.Body)
		}
	}
	return has, body, end
}

func (x *modelPacket) clashes(p api.Packet) bool {
	has, _, end := x.places()
	size := p.Off + len(p.Body)
	for at := range has {
		if has[at] && (at >= p.Off && at < size || !p.More && at >= size) {
			return true
		}
	}
	return end > 0 && size > end
}

func (m *model) add(p api.Packet, now int) (api.Packet, bool, api.Errno) {
	none := api.Packet{}
	if now < 0 || now > 1<<40 {
		return none, false, api.ErrArg
	}
	if now < m.now {
		return none, false, api.ErrTick
	}
	if _, e := ip.Put(p); e != api.OK {
		return none, false, e
	}
	if p.Off == 0 && !p.More {
		m.now = now
		return p, true, api.OK
	}
	if len(p.Body) == 0 {
		return none, false, api.ErrForm
	}
	if p.Off+len(p.Body) > 4096 {
		return none, false, api.ErrLimit
	}
	i := m.find(p)
	if i >= 0 && !m.packets[i].isThere(p) && m.packets[i].clashes(p) {
		m.remove(i)
		m.dropped++
		return none, false, api.ErrForm
	}
	m.now = now
	return m.hold(i, p)
}

func (m *model) hold(i int, p api.Packet) (api.Packet, bool, api.Errno) {
	none := api.Packet{}
	if i < 0 {
		if len(m.packets) == 4 {
			oldest := 0
			for j, x := range m.packets {
				if x.since < m.packets[oldest].since {
					oldest = j
				}
			}
			m.remove(oldest)
			m.dropped++
		}
		i = len(m.packets)
		m.packets = append(m.packets, &modelPacket{p.Src, p.Dst, p.Proto, p.ID, m.now, nil})
	}
	x := m.packets[i]
	if x.isThere(p) {
		return none, false, api.OK
	}
	x.pieces = append(x.pieces, p)
	has, body, end := x.places()
	for at := range end {
		if !has[at] {
			return none, false, api.OK
		}
	}
	if end == 0 {
		return none, false, api.OK
	}
	var whole api.Packet
	for _, q := range x.pieces {
		if q.Off == 0 {
			whole = q
		}
	}
	whole.More, whole.Body = false, body[:end]
	m.remove(i)
	return whole, true, api.OK
}

func (m *model) tick(now int) (int, api.Errno) {
	if now < 0 || now > 1<<40 {
		return 0, api.ErrArg
	}
	if now < m.now {
		return 0, api.ErrTick
	}
	m.now = now
	n := 0
	for i := len(m.packets) - 1; i >= 0; i-- {
		if now-m.packets[i].since >= 30 {
			m.remove(i)
			n++
		}
	}
	m.dropped += n
	return n, api.OK
}

func (m *model) count() (int, int, int) {
	size := 0
	for _, x := range m.packets {
		for _, q := range x.pieces {
			size += len(q.Body)
		}
	}
	return len(m.packets), size, m.dropped
}

// drawPiece is a piece of one of few packets; most of them go with the others.
func drawPiece(draw func() uint64, ids uint64) api.Packet {
	p := api.Packet{ID: uint16(draw() % ids), TTL: uint8(draw()), Dont: draw()%2 == 0}
	units := 3 + int(p.ID)%3 // a packet of so many units of eight bytes, less three
	from := int(draw() % uint64(units))
	upto := from + 1 + int(draw()%uint64(min(2, units-from)))
	whole := make([]byte, 8*units-3)
	for i := range whole {
		whole[i] = byte(i) ^ byte(p.ID)
	}
	p.Off, p.More = 8*from, upto < units
	p.Body = whole[8*from : min(8*upto, len(whole))]
	switch draw() % 60 {
	case 0:
		p.More = !p.More
	case 1:
		p.Off += 8
	case 2:
		p.Off += 4080
	case 3:
		p.Off++
	case 4:
		p.Body = nil
	case 5:
		p.Body = bytes.Clone(p.Body)
		p.Body[0]++
	case 6:
		p.Off, p.More = 0, false
	case 7:
		p.Src = 1
	}
	return p
}

// P11.1 to P11.4: whatever comes, the pool is as the chapter tells it, and stays within its limits.
func TestAgainstTheModel(t *testing.T) {
	whole, errors := 0, map[api.Errno]int{}
	for seed := range uint64(40) {
		draw := draws(1000 + seed)
		r, m := reasm.New(), &model{}
		now := 0
		for range 1500 {
			now += int(draw() % 60 / 57 * (1 + draw()%20))
			at := now
			if draw()%40 == 0 {
				at -= int(draw() % 9)
			}
			if draw()%25 == 0 {
				n, e := m.tick(at)
				wantTick(t, r, at, n, e)
			} else {
				p := drawPiece(draw, 2+seed%7)
				want, ok, e := m.add(p, at)
				wantAdd(t, r, p, at, want, ok, e)
				errors[e]++
				if ok && len(want.Body) > 16 {
					whole++
				}
			}
			now = max(now, m.now)
			packets, size, dropped := m.count()
			wantCount(t, r, packets, size, dropped)
			if packets > api.MaxReasm || size > api.MaxReasm*api.MaxDatagram {
				t.Fatalf("%d packets, %d bytes", packets, size)
			}
			if draw()%30 == 0 {
				r = r.Fork()
			}
		}
	}
	if whole < 500 {
		t.Errorf("%d came whole", whole)
	}
	for _, e := range []api.Errno{api.OK, api.ErrArg, api.ErrTick, api.ErrForm, api.ErrLimit} {
		if errors[e] < 20 {
			t.Errorf("error %d came %d times", e, errors[e])
		}
	}
}
