package assoc

import (
	"trunkline/api"
	"trunkline/chunk"
)

// packet is chunks laid into a packet for a way; none, if it is too long.
func (a *Assoc) packet(way int, chunks ...api.Chunk) []api.Send {
	b, e := chunk.Put(api.Head{From: a.side.Port, To: a.side.PeerPort, Tag: a.peer}, chunks)
	if e != api.OK || len(b) > a.side.Mtu-api.HeadIP {
		return nil
	}
	return []api.Send{{Way: way, Bytes: b}}
}

// put has chunks go out in a packet.
func (a *Assoc) put(way int, chunks ...api.Chunk) {
	a.out = append(a.out, a.packet(way, chunks...)...)
}

// reply sends an answer. Without the peer's tag there is nobody to whom it could go.
func (a *Assoc) reply(way int, c api.Chunk) {
	if a.knowsPeer() {
		a.put(way, c)
	}
}

// enter has it be in a state in which it asks.
func (a *Assoc) enter(s api.State) {
	a.state = s
	a.ask()
}

// ask sends what is asked in its state; the answer is awaited from now on.
func (a *Assoc) ask() {
	a.asked = question{way: a.inUse(), since: a.now}
	a.put(a.asked.way, a.asking())
}

// asking is what is asked in its state.
func (a *Assoc) asking() api.Chunk {
	switch a.state {
	case api.CookieWait:
		n := uint16(a.side.Streams)
		return api.Chunk{Type: api.Init, Tag: a.own, Room: api.MaxRoom, Outs: n, Ins: n, TSN: a.first}
	case api.CookieEchoed:
		return api.Chunk{Type: api.CookieEcho, Data: a.cookie}
	case api.ShutdownSent:
		return api.Chunk{Type: api.Shutdown, TSN: a.tracker.Cum()}
	}
	return api.Chunk{Type: api.ShutdownAck}
}

// acknowledge sends an acknowledgement, if it is due.
func (a *Assoc) acknowledge() {
	if a.owed.packets == 0 || a.now < a.owed.at {
		return
	}
	a.put(a.owed.way, api.Chunk{
		Type: api.Sack, TSN: a.tracker.Cum(), Room: uint32(a.space()),
		Blocks: a.tracker.Blocks(), Dups: a.tracker.Dups(),
	})
	a.owed = ack{}
}

// sendPieces sends as many pieces as may fly.
func (a *Assoc) sendPieces() {
	if !a.sendsPieces() {
		return
	}
	way := a.inUse()
	for {
		flight := a.queue.Flight(way)
		if flight >= a.ways[way].Stands().Window {
			return
		}
		pieces, _ := a.queue.Send(way, a.room, a.side.Mtu-api.HeadIP-headSctp)
		if len(pieces) == 0 {
			return
		}
		if flight == 0 {
			a.ways[way].flown = a.now
		}
		a.put(way, pieces...)
	}
}

// Pull is all that is to be sent by now.
func (a *Assoc) Pull() []api.Send {
	if a == nil {
		return nil
	}
	a.acknowledge()
	a.sendPieces()
	out := a.out
	a.out = nil // the list is the caller's now
	return out
}
