package world

import (
	"slices"

	"trunkline/api"
	"trunkline/host"
)

const (
	maxPort  = 1<<16 - 1
	maxWait  = 1000
	lastTick = api.MaxTick - api.MaxLife
	heads    = api.MaxFrame - api.MaxBody + api.HeadIP // bytes of a frame that are never flipped
	maxTurns = 40                                      // how often in a round what is answered comes
)

// mayDo is the error of an act, by what it is and at which host.
func (w *World) mayDo(a api.Act) api.Errno {
	if w == nil {
		return api.ErrNil
	}
	if len(w.trace) >= api.MaxMarks {
		return api.ErrLimit
	}
	if a.Do < api.Bind || a.Do > api.Calm {
		return api.ErrType
	}
	atHost := a.Do <= api.Step || a.Do == api.Lift || a.Do == api.Forge
	if atHost && !isHost(a.Host) {
		return api.ErrArg
	}
	return api.OK
}

// Do does an act.
func (w *World) Do(a api.Act) (int, api.Errno) {
	if e := w.mayDo(a); e != api.OK {
		return 0, e
	}
	switch a.Do {
	case api.Bind, api.Accept:
		return w.number(w.hosts[a.Host], a)
	case api.Push, api.Take, api.Hear, api.Shut:
		return 0, w.mark(w.hosts[a.Host], a)
	case api.Land, api.Drop, api.Flip:
		return 0, w.meddle(a)
	case api.Wait, api.Calm:
		return 0, w.pass(a)
	}
	return 0, w.use(w.hosts[a.Host], a)
}

func isPort(n int) bool { return n >= 0 && n <= maxPort }

// number does an act that tells a socket's number.
func (w *World) number(h *host.Host, a api.Act) (int, api.Errno) {
	if a.Do == api.Accept {
		return h.Accept(a.Id)
	}
	if !isPort(a.N) {
		return 0, api.ErrArg
	}
	return h.Bind(uint16(a.N))
}

// mark does an act that leaves a mark.
func (w *World) mark(h *host.Host, a api.Act) api.Errno {
	m := api.Mark{Host: a.Host}
	m.Own, m.Peer, _ = h.Tags(a.Id) // where there are none the act has an error
	e := api.OK
	switch a.Do {
	case api.Push:
		m.Is, m.Msg = api.Sent, a.Msg
		e = h.Send(a.Id, a.Msg)
	case api.Take:
		m.Is = api.Got
		m.Msg, e = h.Recv(a.Id)
	case api.Hear:
		m.Is = api.Told
		m.Notice, e = h.Notice(a.Id)
	case api.Shut:
		m.Is = api.Shutting
		e = h.Shutdown(a.Id)
	}
	if e == api.OK {
		w.trace = append(w.trace, copied(m))
	}
	return e
}

// use does an act of a host that is neither told of nor marked.
func (w *World) use(h *host.Host, a api.Act) api.Errno {
	switch a.Do {
	case api.Listen:
		return h.Listen(a.Id)
	case api.Connect:
		return w.connect(h, a)
	case api.Kill:
		return h.Abort(a.Id)
	case api.Free:
		return h.Close(a.Id)
	case api.Step:
		return w.step(h)
	case api.Lift:
		return w.lift(h, a)
	}
	return h.Frame(a.N, a.Bytes)
}

// connect has a socket ask for an association.
func (w *World) connect(h *host.Host, a api.Act) api.Errno {
	if !isPort(a.N) {
		return api.ErrArg
	}
	return w.drawFor(func(draw uint64) api.Errno { return h.Connect(a.Id, uint16(a.N), draw) })
}

// step has a host go a Step.
func (w *World) step(h *host.Host) api.Errno {
	return w.drawFor(func(draw uint64) api.Errno { return h.Step(w.now, draw) })
}

// drawFor hands the next draw on, and goes on to the one behind it if it was used.
func (w *World) drawFor(use func(draw uint64) api.Errno) api.Errno {
	e := use(w.draw())
	if e == api.OK {
		w.drawn++
	}
	return e
}

// lift has a frame that a host sends be under way.
func (w *World) lift(h *host.Host, a api.Act) api.Errno {
	b, e := h.Out(a.N)
	if e == api.OK && len(w.air) < api.MaxAir {
		w.air = append(w.air, flier{line: a.N, to: other(a.Host), bytes: b})
	}
	return e
}

// meddle does an act with a frame under way.
func (w *World) meddle(a api.Act) api.Errno {
	if !w.isUnderWay(a.N) {
		return api.ErrArg
	}
	f := &w.air[a.N]
	switch a.Do {
	case api.Land:
		return w.hosts[f.to].Frame(f.line, f.bytes)
	case api.Flip:
		return f.flip(a.Id, a.Host)
	}
	w.air = slices.Delete(w.air, a.N, a.N+1)
	return api.OK
}

// flip turns bits of a frame's byte.
func (f *flier) flip(at, bits int) api.Errno {
	if f.flipped {
		return api.ErrKnown
	}
	if at < heads || at >= len(f.bytes) || bits < 1 || bits > 255 {
		return api.ErrArg
	}
	f.bytes[at] ^= byte(bits)
	f.flipped = true
	return api.OK
}

// pass lets time pass.
func (w *World) pass(a api.Act) api.Errno {
	least, most := 0, maxWait
	if a.Do == api.Calm {
		least, most = 1, api.MaxRounds
	}
	if a.N < least || a.N > most || w.now > lastTick-a.N {
		return api.ErrArg
	}
	if a.Do == api.Wait {
		w.now += a.N
		return api.OK
	}
	w.air = nil
	for range a.N {
		w.round()
	}
	return api.OK
}

// round is a tick in which all that is sent comes, and what is sent for it.
func (w *World) round() {
	w.now++
	for range maxTurns {
		for _, h := range w.hosts {
			w.step(h)
		}
		if !w.carry() {
			return
		}
	}
}

// carry has all frames that the hosts have to send come: false, if there is none.
func (w *World) carry() bool {
	came := false
	for k, h := range w.hosts {
		for i := range api.Cards {
			for {
				b, e := h.Out(i)
				if e != api.OK {
					break
				}
				w.hosts[other(k)].Frame(i, b)
				came = true
			}
		}
	}
	return came
}
