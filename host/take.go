package host

import (
	"slices"

	"trunkline/api"
	"trunkline/assoc"
	"trunkline/chunk"
	"trunkline/ether"
	"trunkline/ip"
)

const (
	noProtocol = 2 // the code of a packet that is refused as nobody knows its protocol
	borrowed   = 1 // the Flags of one who has no tag, and sends the one that it was sent
)

// takeFrames takes all frames that came to a card.
func (h *Host) takeFrames(i int, next func() uint64) {
	for {
		b, e := lift(h.cards[i].in)
		if e != api.OK {
			return
		}
		h.takeFrame(i, b, next())
	}
}

// takeFrame takes a frame.
func (h *Host) takeFrame(i int, b []byte, draw uint64) {
	x, e := ether.Take(b)
	switch {
	case e != api.OK:
		h.counts.Bad++
	case ether.For(x, h.set.Macs[i]) && x.Kind == api.KindArp:
		h.takeArp(i, x.Body)
	case ether.For(x, h.set.Macs[i]) && x.Kind == api.KindIP:
		h.takeIP(i, x.Body, draw)
	default:
		h.counts.Alien++
	}
}

// takeArp takes a question, or an answer.
func (h *Host) takeArp(i int, b []byte) {
	a, e := ether.TakeArp(b)
	if e != api.OK {
		h.counts.Bad++
		return
	}
	frames, _ := h.cards[i].near.Take(a, h.now) // beside an error there are none
	h.lay(i, frames)
}

// takeIP takes a packet of IP, or a piece of one.
func (h *Host) takeIP(i int, b []byte, draw uint64) {
	p, e := ip.Take(b)
	if e != api.OK {
		h.counts.Bad++
		return
	}
	if p.Dst != h.set.Addrs[i] {
		h.counts.Alien++
		return
	}
	whole, is, e := h.pool.Add(p, h.now)
	if e != api.OK {
		h.counts.Bad++
		return
	}
	if is {
		h.takeWhole(i, whole, draw)
	}
}

// takeWhole takes a packet of IP that is whole.
func (h *Host) takeWhole(i int, p api.Packet, draw uint64) {
	switch {
	case p.Proto == api.ProtoIcmp:
		if answer, is := ip.Echo(p); is {
			h.send(i, answer)
		}
	case p.Proto != api.ProtoSctp:
		if answer, e := ip.Refuse(p, noProtocol, 0); e == api.OK {
			h.send(i, answer)
		}
	case p.Src != h.set.Peers[i]:
		h.counts.Stray++
	default:
		h.takeSctp(i, p.Body, draw)
	}
}

// takeSctp takes a packet of SCTP.
func (h *Host) takeSctp(i int, b []byte, draw uint64) {
	head, chunks, e := chunk.Take(b)
	if e != api.OK {
		h.counts.Bad++
		return
	}
	door := h.listener(head.To)
	a := h.between(head.To, head.From)
	switch {
	case door != nil && chunks[0].Type == api.Init:
		h.answer(i, door, b, draw)
	case door != nil && chunks[0].Type == api.CookieEcho:
		h.takeCookie(i, door, a, head, b)
	case a != nil:
		h.hand(i, a, b)
	default:
		h.refuse(i, head, chunks)
	}
}

// listener is the socket that listens at a port; nil, if none does.
func (h *Host) listener(port uint16) *socket {
	for i, s := range h.socks {
		if s.stands == listening && s.port == port {
			return &h.socks[i]
		}
	}
	return nil
}

// between is the association between two ports that is not Closed; nil, if there is none. Others that are Closed take nothing, and are not replaced.
func (h *Host) between(port, peer uint16) *assoc.Assoc {
	for _, s := range h.socks {
		if s.link.Stands() != api.Closed && s.port == port && s.link.Peer() == peer {
			return s.link
		}
	}
	return nil
}

// answer answers one who asks for an association.
func (h *Host) answer(i int, door *socket, b []byte, draw uint64) {
	out, e := door.door.Init(b, h.now, draw)
	if e != api.OK {
		h.counts.Stray++
		return
	}
	h.sendSctp(i, out)
}

// isKnown: is a tag that of an association that there is, or remembered?
func (h *Host) isKnown(tag uint32) bool {
	there := slices.ContainsFunc(h.socks[:], func(s socket) bool { return s.link != nil && s.own() == tag })
	return there || slices.ContainsFunc(h.past, func(m memory) bool { return m.tag == tag })
}

// takeCookie takes a cookie that came back: once more to the association of it, or to make one.
func (h *Host) takeCookie(i int, door *socket, a *assoc.Assoc, head api.Head, b []byte) {
	if door.door.Twice(a, b, i, h.now) {
		h.sendAll(a)
		return
	}
	id := h.leastFree()
	if id == 0 || len(door.waits) == api.MaxBacklog || h.isKnown(head.Tag) {
		h.counts.Stray++
		return
	}
	made, e := door.door.Echo(b, i, h.now)
	if e != api.OK {
		h.counts.Stray++
		return
	}
	a.Replace()
	*h.at(id) = socket{stands: waiting, port: head.To, link: made, made: true}
	door.waits = append(door.waits, id)
	h.sendAll(made)
}

// hand hands a packet to an association.
func (h *Host) hand(i int, a *assoc.Assoc, b []byte) {
	if a.Take(b, i, h.now) != api.OK {
		h.counts.Stray++
		return
	}
	h.sendAll(a)
}

// refuse tells who sent a packet that there is nobody to take it. What tells of an end is not answered, lest two hosts refuse each other's refusals.
func (h *Host) refuse(i int, head api.Head, chunks []api.Chunk) {
	h.counts.Stray++
	tag, answer := head.Tag, api.Chunk{Type: api.Abort, Flags: borrowed}
	for _, c := range chunks {
		switch c.Type {
		case api.Abort, api.ShutdownComplete, api.CookieAck, api.Error:
			return
		case api.Init:
			tag, answer.Flags = c.Tag, 0
		case api.ShutdownAck:
			answer.Type = api.ShutdownComplete
		}
	}
	out, _ := chunk.Put(api.Head{From: head.To, To: head.From, Tag: tag}, []api.Chunk{answer}) // no error: it is short
	h.sendSctp(i, out)
}
