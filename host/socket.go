package host

import (
	"slices"

	"trunkline/api"
	"trunkline/assoc"
)

// standing is how a socket stands.
type standing int

const (
	free standing = iota
	bound
	listening
	linked
	waiting
)

// socket is a socket, or the room for one.
type socket struct {
	stands standing
	port   uint16
	door   *assoc.Listener // of one that listens
	waits  []int           // the numbers of those that wait at it, the one that waits the longest first
	link   *assoc.Assoc    // of one that is linked, or waits
	made   bool            // did a listener make its association?
}

// sockets are all of a host, by their numbers: the first one is number 1.
type sockets [api.MaxSocks]socket

// memory is a tag that is remembered.
type memory struct {
	tag   uint32
	since int // when its socket was closed
}

// at is the socket, or the room, of a number that may be.
func (h *Host) at(id int) *socket { return &h.socks[id-1] }

// leastFree is the least number that is free; 0, if none is.
func (h *Host) leastFree() int {
	return 1 + slices.IndexFunc(h.socks[:], func(s socket) bool { return s.stands == free })
}

// own is the tag of a socket's association; 0, which is no tag, without one.
func (s socket) own() uint32 {
	own, _ := s.link.Tags()
	return own
}

// forget lets go of the tags that are not remembered any more.
func (h *Host) forget() {
	h.past = slices.DeleteFunc(h.past, func(m memory) bool { return h.now-m.since > api.MaxLife })
}

// side is a socket's settings, with the other side's port.
func (h *Host) side(port, peer uint16) api.Side {
	return api.Side{Port: port, PeerPort: peer, Streams: h.set.Streams, Mtu: h.set.Mtu}
}

// Bind is a socket of a port.
func (h *Host) Bind(port uint16) (int, api.Errno) {
	if h == nil {
		return 0, api.ErrNil
	}
	// A port of 0 is what a free one has, so that none is bound to it.
	if port == 0 || slices.ContainsFunc(h.socks[:], func(s socket) bool { return s.port == port }) {
		return 0, api.ErrPort
	}
	id := h.leastFree()
	if id == 0 {
		return 0, api.ErrFull
	}
	*h.at(id) = socket{stands: bound, port: port}
	return id, api.OK
}

// handed is a socket whose number was handed out.
func (h *Host) handed(id int) (*socket, api.Errno) {
	if h == nil {
		return nil, api.ErrNil
	}
	if id < 1 || id > api.MaxSocks {
		return nil, api.ErrGone
	}
	s := h.at(id)
	if s.stands == free || s.stands == waiting {
		return nil, api.ErrGone
	}
	return s, api.OK
}

// standingAs is a socket whose number was handed out, and which stands so.
func (h *Host) standingAs(id int, how standing) (*socket, api.Errno) {
	s, e := h.handed(id)
	if e != api.OK {
		return nil, e
	}
	if s.stands != how {
		return nil, api.ErrState
	}
	return s, api.OK
}

// Listen has a socket listen.
func (h *Host) Listen(id int) api.Errno {
	s, e := h.standingAs(id, bound)
	if e != api.OK {
		return e
	}
	door, e := assoc.Listen(h.side(s.port, 0), h.secret)
	if e != api.OK {
		return e
	}
	s.stands, s.door = listening, door
	return api.OK
}

// Connect has a socket ask for an association.
func (h *Host) Connect(id int, port uint16, draw uint64) api.Errno {
	s, e := h.standingAs(id, bound)
	if e != api.OK {
		return e
	}
	if port == 0 {
		return api.ErrPort
	}
	link, e := assoc.Open(h.side(s.port, port), h.now, draw)
	if e != api.OK {
		return e
	}
	s.stands, s.link = linked, link
	return api.OK
}

// Accept is a socket of an association that was made.
func (h *Host) Accept(id int) (int, api.Errno) {
	s, e := h.standingAs(id, listening)
	if e != api.OK {
		return 0, e
	}
	if len(s.waits) == 0 {
		return 0, api.ErrEmpty
	}
	next := s.waits[0]
	s.waits = slices.Delete(s.waits, 0, 1)
	h.at(next).stands = linked
	return next, api.OK
}

// association is that of a linked socket.
func (h *Host) association(id int) (*assoc.Assoc, api.Errno) {
	s, e := h.standingAs(id, linked)
	if e != api.OK {
		return nil, e
	}
	return s.link, api.OK
}

// Send sends a message.
func (h *Host) Send(id int, m api.Msg) api.Errno {
	a, e := h.association(id)
	if e != api.OK {
		return e
	}
	return a.Send(m)
}

// Recv is the next message.
func (h *Host) Recv(id int) (api.Msg, api.Errno) {
	a, e := h.association(id)
	if e != api.OK {
		return api.Msg{}, e
	}
	return a.Recv()
}

// Notice is the next notice.
func (h *Host) Notice(id int) (api.Notice, api.Errno) {
	a, e := h.association(id)
	if e != api.OK {
		return api.NoNotice, e
	}
	return a.Notice()
}

// Shutdown shuts an association down.
func (h *Host) Shutdown(id int) api.Errno {
	a, e := h.association(id)
	if e != api.OK {
		return e
	}
	return a.Shutdown()
}

// Abort ends an association.
func (h *Host) Abort(id int) api.Errno {
	a, e := h.association(id)
	if e != api.OK {
		return e
	}
	return a.Abort()
}

// State is a socket's association's.
func (h *Host) State(id int) (api.State, api.Errno) {
	a, e := h.association(id)
	if e != api.OK {
		return api.Closed, e
	}
	return a.Stands(), api.OK
}

// Tags are a socket's association's.
func (h *Host) Tags(id int) (uint32, uint32, api.Errno) {
	a, e := h.association(id)
	if e != api.OK {
		return 0, 0, e
	}
	own, peer := a.Tags()
	return own, peer, api.OK
}

// release frees a socket. A cookie of its association may come yet: by the tag it is known again.
func (h *Host) release(id int) {
	s := h.at(id)
	if s.made {
		h.past = append(h.past, memory{tag: s.own(), since: h.now})
	}
	s.link.Abort()
	h.sendAll(s.link)
	*s = socket{}
}

// Close frees a socket, and those that wait at it.
func (h *Host) Close(id int) api.Errno {
	s, e := h.handed(id)
	if e != api.OK {
		return e
	}
	ids := append([]int{id}, s.waits...)
	past := len(h.past)
	for _, n := range ids {
		if h.at(n).made {
			past++
		}
	}
	if past > api.MaxPast {
		return api.ErrFull
	}
	for _, n := range ids {
		h.release(n)
	}
	return api.OK
}

// tickSockets lets time pass for all associations, and sends what they have to send.
func (h *Host) tickSockets(next func() uint64) {
	for _, s := range h.socks {
		if s.link != nil {
			s.link.Tick(h.now, next())
		}
	}
	for _, s := range h.socks {
		h.sendAll(s.link)
	}
}
