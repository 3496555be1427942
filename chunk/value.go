package chunk

import (
	"trunkline/api"
	"trunkline/octet"
)

// value is what a chunk has behind its length. Each kind of value has a type of its own.
type value interface {
	size() int     // how many bytes it has, without those that pad it
	lay(w *writer) // lays them
}

// dataValue is that of Data.
type dataValue struct {
	tsn         uint32
	stream, ssn uint16
	ppid        uint32
	data        []byte
}

// initValue is that of Init and InitAck.
type initValue struct {
	tag, room uint32
	outs, ins uint16
	tsn       uint32
	params    paramsValue
}

// sackValue is that of Sack.
type sackValue struct {
	tsn, room uint32
	blocks    [][2]uint16
	dups      []uint32
}

type (
	paramsValue []api.Param // that of kinds that have parameters alone
	tsnValue    uint32      // that of Shutdown
	noValue     struct{}    // that of kinds that have nothing
	rawValue    []byte      // that of all others
)

// valueOf is what a chunk of its Type has; fields that are not in it are left out.
func valueOf(c api.Chunk) value {
	switch c.Type {
	case api.Data:
		return dataValue{tsn: c.TSN, stream: c.Stream, ssn: c.SSN, ppid: c.PPID, data: c.Data}
	case api.Init, api.InitAck:
		return initValue{tag: c.Tag, room: c.Room, outs: c.Outs, ins: c.Ins, tsn: c.TSN, params: c.Params}
	case api.Sack:
		return sackValue{tsn: c.TSN, room: c.Room, blocks: c.Blocks, dups: c.Dups}
	case api.Heartbeat, api.HeartbeatAck, api.Abort, api.Error:
		return paramsValue(c.Params)
	case api.Shutdown:
		return tsnValue(c.TSN)
	case api.ShutdownAck, api.CookieAck, api.ShutdownComplete:
		return noValue{}
	}
	return rawValue(c.Data)
}

// chunkOf is the chunk that has a value.
func chunkOf(kind, flags uint8, v value) api.Chunk {
	c := api.Chunk{Type: kind, Flags: flags}
	switch v := v.(type) {
	case dataValue:
		c.TSN, c.Stream, c.SSN, c.PPID, c.Data = v.tsn, v.stream, v.ssn, v.ppid, v.data
	case initValue:
		c.Tag, c.Room, c.Outs, c.Ins, c.TSN, c.Params = v.tag, v.room, v.outs, v.ins, v.tsn, v.params
	case sackValue:
		c.TSN, c.Room, c.Blocks, c.Dups = v.tsn, v.room, v.blocks, v.dups
	case paramsValue:
		c.Params = v
	case tsnValue:
		c.TSN = uint32(v)
	case rawValue:
		c.Data = v
	}
	return c
}

// lacksData: is it that of Data, without a byte?
func lacksData(v value) bool {
	d, ok := v.(dataValue)
	return ok && len(d.data) == 0
}

// hasTooMany: has it more of a list than may be?
func hasTooMany(v value) bool {
	switch v := v.(type) {
	case initValue:
		return len(v.params) > api.MaxParams
	case sackValue:
		return len(v.blocks) > api.MaxBlocks || len(v.dups) > api.MaxDups
	case paramsValue:
		return len(v) > api.MaxParams
	}
	return false
}

// Bytes of values ahead of their lists.
const (
	dataHead = 12
	initHead = 16
	sackHead = 12
)

func (v dataValue) size() int { return dataHead + len(v.data) }
func (v initValue) size() int { return initHead + v.params.size() }
func (v sackValue) size() int { return sackHead + word*len(v.blocks) + word*len(v.dups) }
func (v tsnValue) size() int  { return word }
func (v noValue) size() int   { return 0 }
func (v rawValue) size() int  { return len(v) }

func (v paramsValue) size() int {
	size, behind := 0, 0 // what pads one counts only if another one stands behind it
	for _, p := range v {
		size += behind + partHead + len(p.Value)
		behind = padding(len(p.Value))
	}
	return size
}

// writer lays bytes one behind the other.
type writer struct{ out []byte }

func (w *writer) raw(b []byte) { w.out = append(w.out, b...) }

func (w *writer) number(v uint64, width int) {
	digits, _ := octet.Bytes(v, width) // no error: each width holds all of its field's numbers
	w.raw(digits)
}

func (w *writer) half(v uint16) { w.number(uint64(v), 2) }
func (w *writer) word(v uint32) { w.number(uint64(v), 4) }

// pad lays bytes 0. All that is padded begins at a multiple of four, so it may be reckoned from the packet's beginning.
func (w *writer) pad() { w.raw(make([]byte, padding(len(w.out)))) }

func (w *writer) chunk(c api.Chunk) {
	v := valueOf(c)
	w.number(uint64(c.Type), 1)
	w.number(uint64(c.Flags), 1)
	w.half(uint16(partHead + v.size()))
	v.lay(w)
	w.pad()
}

func (v dataValue) lay(w *writer) {
	w.word(v.tsn)
	w.half(v.stream)
	w.half(v.ssn)
	w.word(v.ppid)
	w.raw(v.data)
}

func (v initValue) lay(w *writer) {
	w.word(v.tag)
	w.word(v.room)
	w.half(v.outs)
	w.half(v.ins)
	w.word(v.tsn)
	v.params.lay(w)
}

func (v sackValue) lay(w *writer) {
	w.word(v.tsn)
	w.word(v.room)
	w.half(uint16(len(v.blocks)))
	w.half(uint16(len(v.dups)))
	for _, block := range v.blocks {
		w.half(block[0])
		w.half(block[1])
	}
	for _, tsn := range v.dups {
		w.word(tsn)
	}
}

func (v paramsValue) lay(w *writer) {
	for _, p := range v {
		w.half(p.Kind)
		w.half(uint16(partHead + len(p.Value)))
		w.raw(p.Value)
		w.pad()
	}
}

func (v tsnValue) lay(w *writer) { w.word(uint32(v)) }
func (v noValue) lay(w *writer)  {}
func (v rawValue) lay(w *writer) { w.raw(v) }
