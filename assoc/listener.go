package assoc

import (
	"trunkline/api"
	"trunkline/chunk"
	"trunkline/cookie"
)

// Listener is who answers those who ask, and keeps nothing of them.
type Listener struct {
	side api.Side
	keys *cookie.Keys
}

// Listen is a listener.
func Listen(s api.Side, secret []byte) (*Listener, api.Errno) {
	if !isRight(s) {
		return nil, api.ErrArg
	}
	return &Listener{side: s, keys: cookie.New(secret)}, api.OK
}

// Turn has another secret be the current one.
func (l *Listener) Turn(secret []byte) api.Errno {
	if l == nil {
		return api.ErrNil
	}
	return l.keys.Turn(secret)
}

// read is a packet to the listener's port. What is sealed at now must be a tick yet when it is stale.
func (l *Listener) read(b []byte, now int) (api.Head, []api.Chunk, api.Errno) {
	if l == nil {
		return api.Head{}, nil, api.ErrNil
	}
	if now < 0 || now > api.MaxTick-api.MaxLife {
		return api.Head{}, nil, api.ErrArg
	}
	h, chunks, e := chunk.Take(b)
	if e != api.OK {
		return api.Head{}, nil, e
	}
	if h.To != l.side.Port || h.From == 0 {
		return api.Head{}, nil, api.ErrPort
	}
	return h, chunks, api.OK
}

// mayAnswer is the error of a packet that is to ask for an association.
func mayAnswer(h api.Head, chunks []api.Chunk) api.Errno {
	c := chunks[0]
	if len(chunks) != 1 || c.Type != api.Init {
		return api.ErrType
	}
	if h.Tag != 0 || c.Tag == 0 {
		return api.ErrTag
	}
	if c.Outs == 0 || c.Ins == 0 {
		return api.ErrStream
	}
	return api.OK
}

// Init is the answer to one who asks.
func (l *Listener) Init(b []byte, now int, draw uint64) ([]byte, api.Errno) {
	h, chunks, e := l.read(b, now)
	if e != api.OK {
		return nil, e
	}
	if e := mayAnswer(h, chunks); e != api.OK {
		return nil, e
	}
	c := chunks[0]
	sealed, e := l.keys.Seal(api.Cookie{
		Made: now, Life: api.MaxLife,
		Port: l.side.Port, PeerPort: h.From,
		Tag: tagOf(draw), PeerTag: c.Tag,
		TSN: firstOf(draw), PeerTSN: c.TSN,
		Room: c.Room, Outs: c.Ins, Ins: c.Outs,
	})
	if e != api.OK {
		return nil, e
	}
	n := uint16(l.side.Streams)
	return chunk.Put(api.Head{From: l.side.Port, To: h.From, Tag: c.Tag}, []api.Chunk{{
		Type: api.InitAck, Tag: tagOf(draw), Room: api.MaxRoom, Outs: n, Ins: n, TSN: firstOf(draw),
		Params: []api.Param{{Kind: kindCookie, Value: sealed}},
	}})
}

// open is the cookie that came back in a packet, and the chunks behind it.
func (l *Listener) open(b []byte, w, now int) (api.Cookie, []api.Chunk, api.Errno) {
	h, chunks, e := l.read(b, now)
	if e != api.OK {
		return api.Cookie{}, nil, e
	}
	if !isWay(w) {
		return api.Cookie{}, nil, api.ErrArg
	}
	if chunks[0].Type != api.CookieEcho {
		return api.Cookie{}, nil, api.ErrType
	}
	c, e := l.keys.Open(chunks[0].Data, now)
	if e != api.OK {
		return api.Cookie{}, nil, e
	}
	if h.Tag != c.Tag {
		return api.Cookie{}, nil, api.ErrTag
	}
	if h.To != c.Port || h.From != c.PeerPort {
		return api.Cookie{}, nil, api.ErrPort
	}
	return c, chunks[1:], api.OK
}

// welcome takes a packet whose cookie is that of an association.
func (a *Assoc) welcome(rest []api.Chunk, w int) {
	a.put(w, api.Chunk{Type: api.CookieAck})
	a.takeAll(rest, w)
}

// Echo is the association of a cookie that came back.
func (l *Listener) Echo(b []byte, w, now int) (*Assoc, api.Errno) {
	c, rest, e := l.open(b, w, now)
	if e != api.OK {
		return nil, e
	}
	a := &Assoc{side: l.side, own: c.Tag, first: c.TSN, now: now, ways: newLanes(l.side.Mtu)}
	a.side.PeerPort = c.PeerPort
	a.meet(api.Chunk{Tag: c.PeerTag, Room: c.Room, Outs: c.Outs, Ins: c.Ins, TSN: c.PeerTSN})
	a.establish()
	a.welcome(rest, w)
	return a, api.OK
}

// Twice answers a cookie that came back once more: to an association that it made; false: it did not.
func (l *Listener) Twice(a *Assoc, b []byte, w, now int) bool {
	if a.Stands() < api.Established {
		return false
	}
	c, rest, e := l.open(b, w, now)
	if e != api.OK || c.Tag != a.own || c.PeerTag != a.peer {
		return false
	}
	a.now = max(a.now, now)
	a.welcome(rest, w)
	return true
}
