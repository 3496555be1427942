package ip

import (
	"bytes"

	"trunkline/api"
	"trunkline/sums"
)

const (
	icmpLen   = 8 // bytes of a message ahead of its Body
	icmpSumAt = 2
	echoed    = 0 // types of messages
	refused   = 3
	echo      = 8
	maxCode   = 15
	maxMtu    = 1<<16 - 1
	quoted    = 8 // bytes of a Body that are told to who sent it
)

// PutIcmp is a message's bytes.
func PutIcmp(x api.Icmp) []byte {
	var out []byte
	lay := laying(&out)
	lay(uint64(x.Type), 1)
	lay(uint64(x.Code), 1)
	lay(0, 2)
	lay(uint64(x.Rest), 4)
	return stamped(append(out, x.Body...), icmpSumAt)
}

// TakeIcmp is the message of bytes.
func TakeIcmp(b []byte) (api.Icmp, api.Errno) {
	if len(b) < icmpLen {
		return api.Icmp{}, api.ErrShort
	}
	if sums.Net(b) != 0 {
		return api.Icmp{}, api.ErrSum
	}
	next := reading(b)
	var x api.Icmp
	x.Type = uint8(next(1))
	x.Code = uint8(next(1))
	next(2) // the sum was asked for above
	x.Rest = uint32(next(4))
	x.Body = bytes.Clone(b[icmpLen:])
	return x, api.OK
}

// back is a packet with a message to who sent p.
func back(p api.Packet, x api.Icmp) api.Packet {
	return api.Packet{Src: p.Dst, Dst: p.Src, Proto: api.ProtoIcmp, TTL: api.TTL, Body: PutIcmp(x)}
}

// Echo is the answer to a question.
func Echo(p api.Packet) (api.Packet, bool) {
	if p.Off != 0 || p.More || p.Proto != api.ProtoIcmp {
		return api.Packet{}, false
	}
	x, e := TakeIcmp(p.Body)
	if e != api.OK || x.Type != echo || x.Code != 0 {
		return api.Packet{}, false
	}
	x.Type = echoed
	out := back(p, x)
	out.ID = p.ID
	return out, true
}

// mayBeRefused: may who sent p be told that it is not taken? Of messages only questions and answers may, lest refusals be refused.
func mayBeRefused(p api.Packet) bool {
	if p.Off != 0 {
		return false
	}
	if p.Proto != api.ProtoIcmp {
		return true
	}
	return len(p.Body) > 0 && (p.Body[0] == echoed || p.Body[0] == echo)
}

// Refuse is what tells that a packet is not taken.
func Refuse(p api.Packet, code, mtu int) (api.Packet, api.Errno) {
	if e := mayBe(p); e != api.OK {
		return api.Packet{}, e
	}
	if code < 0 || code > maxCode || mtu < 0 || mtu > maxMtu {
		return api.Packet{}, api.ErrArg
	}
	if !mayBeRefused(p) {
		return api.Packet{}, api.ErrType
	}
	quote := append(head(p), p.Body[:min(quoted, len(p.Body))]...)
	return back(p, api.Icmp{Type: refused, Code: uint8(code), Rest: uint32(mtu), Body: quote}), api.OK
}
