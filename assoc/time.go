package assoc

import (
	"slices"

	"trunkline/api"
	"trunkline/octet"
)

// otherWay is the bit by which heartbeats of the second way are told from those of the first one.
const otherWay = 1 << 63

// askAt is when it is to ask again.
func (a *Assoc) askAt() (int, bool) {
	return a.asked.since + a.ways[a.asked.way].Stands().Rto, a.asks()
}

// expireAt is when what flies on a way is to be sent again.
func (a *Assoc) expireAt(i int) (int, bool) {
	return a.ways[i].flown + a.ways[i].Stands().Rto, a.queue.Flight(i) > 0
}

// beatAt is when a heartbeat is to be sent on a way.
func (a *Assoc) beatAt(i int) (int, bool) {
	return a.ways[i].beaten + max(api.BeatEvery, a.ways[i].Stands().Rto), a.sendsPieces()
}

// sackAt is when what came is to be acknowledged.
func (a *Assoc) sackAt() (int, bool) { return a.owed.at, a.owed.packets > 0 }

// isDue: is it time for something, if it is to be at all?
func (a *Assoc) isDue(at int, is bool) bool { return is && at <= a.now }

// askAgain asks once more, if no answer came.
func (a *Assoc) askAgain() {
	if !a.isDue(a.askAt()) {
		return
	}
	a.ways[a.asked.way].Late()
	a.fault()
	if a.state != api.Closed {
		a.ask()
	}
}

// expire has what flies on a way be sent again, if it was not acknowledged.
func (a *Assoc) expire(i int) {
	if !a.isDue(a.expireAt(i)) {
		return
	}
	a.queue.Expire(i)
	a.ways[i].Late()
	a.fault()
}

// heartbeat sends a heartbeat on a way, if it is time for one.
func (a *Assoc) heartbeat(i int, draw uint64) {
	if !a.isDue(a.beatAt(i)) {
		return
	}
	if a.ways[i].unanswered {
		a.ways[i].Fault()
		a.fault()
	}
	if a.state == api.Closed {
		return
	}
	nonce := draw ^ uint64(a.now)
	if i > 0 {
		nonce ^= otherWay
	}
	a.ways[i].Beat(nonce, a.now)
	a.ways[i].beaten, a.ways[i].unanswered = a.now, true
	value, _ := octet.Bytes(nonce, nonceLen)
	a.put(i, api.Chunk{Type: api.Heartbeat, Params: []api.Param{{Kind: kindBeat, Value: value}}})
}

// Tick lets time pass.
func (a *Assoc) Tick(now int, draw uint64) api.Errno {
	if e := a.mayPass(now); e != api.OK {
		return e
	}
	a.now = now
	a.askAgain()
	for i := range a.ways {
		a.expire(i)
	}
	for i := range a.ways {
		a.heartbeat(i, draw)
	}
	return api.OK
}

// Next is the next tick at which something is to be done; false: none is. What is overdue is due now.
func (a *Assoc) Next() (int, bool) {
	if a == nil {
		return 0, false
	}
	var ticks []int
	note := func(at int, is bool) {
		if is {
			ticks = append(ticks, max(at, a.now))
		}
	}
	note(a.askAt())
	note(a.sackAt())
	for i := range a.ways {
		note(a.expireAt(i))
		note(a.beatAt(i))
	}
	if len(ticks) == 0 {
		return 0, false
	}
	return slices.Min(ticks), true
}
