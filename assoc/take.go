package assoc

import (
	"trunkline/api"
	"trunkline/chunk"
	"trunkline/octet"
)

// Kinds of parameters and causes.
const (
	kindBeat    = 1
	kindStale   = 3
	kindUnknown = 6
	kindCookie  = 7
)

const (
	maxCookie  = 512
	nonceLen   = 8
	firstBlock = 2 // where a block may begin: the TSN behind that of an acknowledgement did not come
	borrowed   = 1 // the bit of Flags by which one who has no tag sends the one that it was sent
)

// ack is what is to be acknowledged: how many packets with pieces, on which way, and when.
type ack struct{ packets, way, at int }

// mayPass is the error of a tick.
func (a *Assoc) mayPass(now int) api.Errno {
	if a == nil {
		return api.ErrNil
	}
	if !isTick(now) {
		return api.ErrArg
	}
	if now < a.now {
		return api.ErrTick
	}
	return api.OK
}

// tagFor is the tag that a packet must have, by its first chunk.
func (a *Assoc) tagFor(first api.Chunk) uint32 {
	last := first.Type == api.Abort || first.Type == api.ShutdownComplete
	if last && first.Flags&borrowed != 0 && a.knowsPeer() {
		return a.peer
	}
	return a.own
}

// mayTake is the error of a packet, by its head and its first chunk.
func (a *Assoc) mayTake(h api.Head, first api.Chunk) api.Errno {
	switch {
	case a.state == api.Closed:
		return api.ErrState
	case h.To != a.side.Port || h.From != a.side.PeerPort:
		return api.ErrPort
	case first.Type == api.Init:
		return api.ErrType
	case h.Tag != a.tagFor(first):
		return api.ErrTag
	}
	return api.OK
}

// Take takes a packet that came on a way.
func (a *Assoc) Take(b []byte, w, now int) api.Errno {
	if e := a.mayPass(now); e != api.OK {
		return e
	}
	if !isWay(w) {
		return api.ErrArg
	}
	h, chunks, e := chunk.Take(b)
	if e != api.OK {
		return e
	}
	if e := a.mayTake(h, chunks[0]); e != api.OK {
		return e
	}
	a.now = now
	a.takeAll(chunks, w)
	return api.OK
}

// takeAll takes a packet's chunks, one by one.
func (a *Assoc) takeAll(chunks []api.Chunk, w int) {
	came, hurry := false, false
	for _, c := range chunks {
		if a.state == api.Closed {
			return
		}
		if c.Type == api.Data && a.takesPieces() {
			hurry = a.takePiece(c) || hurry
			came = true
		} else if !a.takeOther(c, w) {
			break
		}
	}
	if came && a.state != api.Closed {
		a.owe(w, hurry)
	}
}

// takeOther takes a chunk that is no piece: false, if those behind it are not to be taken.
func (a *Assoc) takeOther(c api.Chunk, w int) bool {
	switch c.Type {
	case api.InitAck:
		a.takeInitAck(c)
	case api.CookieAck:
		if a.state == api.CookieEchoed {
			a.establish()
		}
	case api.Error:
		a.takeError(c)
	case api.Sack:
		a.takeSack(c)
	case api.Heartbeat:
		a.reply(w, api.Chunk{Type: api.HeartbeatAck, Params: c.Params})
	case api.HeartbeatAck:
		a.takeBeat(c, w)
	case api.Abort:
		a.end(api.Aborted)
	case api.Shutdown:
		a.takeShutdown(c)
	case api.ShutdownAck:
		a.takeShutdownAck(w)
	case api.ShutdownComplete:
		if a.state == api.ShutdownAckSent {
			a.end(api.Done)
		}
	case api.Data, api.Init, api.CookieEcho:
		// They are known, and mean nothing to it in this state.
	default:
		return a.takeUnknown(c.Type, w)
	}
	return true
}

// takeUnknown takes a chunk of an unknown type, whose bits say what is to be done with it.
func (a *Assoc) takeUnknown(kind uint8, w int) bool {
	if chunk.Tells(kind) {
		a.reply(w, api.Chunk{Type: api.Error, Params: []api.Param{{Kind: kindUnknown}}})
	}
	return !chunk.Stops(kind)
}

// cookieOf is the cookie of a chunk; none, if it has none that may be.
func cookieOf(c api.Chunk) []byte {
	for _, p := range c.Params {
		if p.Kind == kindCookie && len(p.Value) >= 1 && len(p.Value) <= maxCookie {
			return p.Value
		}
	}
	return nil
}

// takeInitAck takes the answer to an Init.
func (a *Assoc) takeInitAck(c api.Chunk) {
	sealed := cookieOf(c)
	if a.state != api.CookieWait || c.Tag == 0 || c.Outs == 0 || c.Ins == 0 || sealed == nil {
		return
	}
	a.cookie = sealed
	a.meet(c)
	a.enter(api.CookieEchoed)
}

// takeError takes a cookie's being stale: all that came with it is worth nothing any more.
func (a *Assoc) takeError(c api.Chunk) {
	if a.state != api.CookieEchoed || len(c.Params) == 0 || c.Params[0].Kind != kindStale {
		return
	}
	a.peer, a.room, a.cookie = 0, 0, nil
	a.queue, a.streams, a.tracker = nil, nil, nil
	a.enter(api.CookieWait)
}

// space is how many bytes may come.
func (a *Assoc) space() int {
	_, size := a.streams.Held()
	for _, m := range a.inbox {
		size += len(m.Data)
	}
	return api.MaxRoom - size
}

// hasRoom: is there room for a piece? Half of it is kept for the next one, on which those behind it wait.
func (a *Assoc) hasRoom(c api.Chunk) bool {
	most := api.MaxHeld / 2
	if c.TSN == a.tracker.Cum()+1 {
		most = api.MaxHeld
	}
	held, _ := a.streams.Held()
	return held < most && len(a.inbox) < api.MaxInbox && len(c.Data) <= a.space()
}

// takePiece takes a piece: true, if it is to be acknowledged at once.
func (a *Assoc) takePiece(c api.Chunk) bool {
	if !a.tracker.Has(c.TSN) && !a.hasRoom(c) {
		return true
	}
	cum := a.tracker.Cum()
	if a.tracker.Add(c.TSN) != api.OK {
		return true
	}
	told, _ := a.streams.Add(c) // what streams refuse is on none of them, and is acknowledged all the same
	a.inbox = append(a.inbox, told...)
	return a.tracker.Cum() == cum
}

// owe notes a packet with pieces.
func (a *Assoc) owe(w int, hurry bool) {
	a.owed.way = w
	a.owed.packets++
	switch {
	case hurry || a.owed.packets > 1:
		a.owed.at = a.now
	default:
		a.owed.at = a.now + api.SackAfter
	}
	if a.state == api.ShutdownSent {
		a.ask()
	}
}

// credit takes an acknowledgement.
func (a *Assoc) credit(c api.Chunk) {
	var flight [api.Paths]int // a window is full or not by what flew till now
	for i := range flight {
		flight[i] = a.queue.Flight(i)
	}
	acked, e := a.queue.Sack(c)
	if e != api.OK {
		return
	}
	a.faults = 0
	a.room = int(c.Room)
	a.heard = api.Chunk{TSN: c.TSN, Blocks: c.Blocks}
	for i, size := range acked.Bytes {
		if size > 0 {
			a.ways[i].Grow(size, acked.Moved, flight[i])
			a.ways[i].Good()
			a.ways[i].flown = a.now
		}
	}
	if acked.Fast {
		a.ways[a.inUse()].Fast()
	}
}

// takeSack takes an acknowledgement, and goes on if it was the last one.
func (a *Assoc) takeSack(c api.Chunk) {
	a.credit(c)
	a.proceed()
}

// takeBeat takes a heartbeat's answer.
func (a *Assoc) takeBeat(c api.Chunk, w int) {
	if len(c.Params) == 0 || c.Params[0].Kind != kindBeat || len(c.Params[0].Value) != nonceLen {
		return
	}
	nonce, _ := octet.Num(c.Params[0].Value, 0, nonceLen)
	if good, _ := a.ways[w].Answer(nonce, a.now); good {
		a.ways[w].unanswered = false
		a.faults = 0
	}
}

// shifted is the blocks of an acknowledgement as they stand from a later TSN on.
func shifted(c api.Chunk, tsn uint32) [][2]uint16 {
	var out [][2]uint16
	moved := int(tsn - c.TSN) // TSNs go round
	for _, block := range c.Blocks {
		first, last := max(int(block[0])-moved, firstBlock), int(block[1])-moved
		if first <= last {
			out = append(out, [2]uint16{uint16(first), uint16(last)})
		}
	}
	return out
}

// takeShutdown takes that the other side has nothing to send any more.
func (a *Assoc) takeShutdown(c api.Chunk) {
	// It says nothing of pieces behind its TSN: what was taken behind a gap is to stay so.
	if c.TSN != a.queue.Cum() {
		a.credit(api.Chunk{Type: api.Sack, TSN: c.TSN, Room: uint32(a.room), Blocks: shifted(a.heard, c.TSN)})
	}
	switch a.state {
	case api.Established, api.ShutdownPending:
		a.state = api.ShutdownReceived
		a.proceed()
	case api.ShutdownReceived:
		a.proceed()
	case api.ShutdownSent:
		a.enter(api.ShutdownAckSent)
	}
}

// takeShutdownAck takes that the other side is done.
func (a *Assoc) takeShutdownAck(w int) {
	if a.state == api.ShutdownSent || a.state == api.ShutdownAckSent {
		a.end(api.Done, a.packet(w, api.Chunk{Type: api.ShutdownComplete})...)
	}
}
