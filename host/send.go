package host

import (
	"trunkline/api"
	"trunkline/assoc"
	"trunkline/ip"
)

// lay lays frames into the ring of what a card sends.
func (h *Host) lay(i int, frames [][]byte) {
	for _, b := range frames {
		if h.cards[i].out.Fill(b) != api.OK {
			h.counts.Dropped++
		}
	}
}

// send sends a packet by a card.
func (h *Host) send(i int, p api.Packet) {
	pieces, e := ip.Split(p, h.set.Mtu)
	if e != api.OK {
		h.counts.Dropped++
		return
	}
	for _, piece := range pieces {
		b, _ := ip.Put(piece) // no error: what Split tells may be
		frames, e := h.cards[i].near.Send(piece.Dst, b, h.now)
		if e != api.OK {
			h.counts.Dropped++
			continue
		}
		h.lay(i, frames)
	}
}

// sendSctp sends a packet of SCTP by a card, to the card's peer.
func (h *Host) sendSctp(i int, b []byte) {
	h.send(i, api.Packet{
		Src: h.set.Addrs[i], Dst: h.set.Peers[i], Proto: api.ProtoSctp,
		TTL: api.TTL, ID: h.id, Dont: true, Body: b,
	})
	h.id++ // it goes round
}

// sendAll sends what an association has to send: each way is a card.
func (h *Host) sendAll(a *assoc.Assoc) {
	for _, s := range a.Pull() {
		h.sendSctp(s.Way, s.Bytes)
	}
}
