package chunk

import (
	"bytes"

	"trunkline/api"
	"trunkline/octet"
)

// fault is what a reader panics with where bytes are not as they must be.
type fault api.Errno

// must has a reader fail with an error, unless ok.
func must(ok bool, e api.Errno) {
	if !ok {
		panic(fault(e))
	}
}

// reader reads bytes one behind the other.
type reader struct {
	left  []byte
	short api.Errno // what it fails with where too few are left
}

// cut is the next n bytes. They lie in what is read, and are not to be handed out.
func (r *reader) cut(n int) []byte {
	must(len(r.left) >= n, r.short)
	b := r.left[:n]
	r.left = r.left[n:]
	return b
}

func (r *reader) number(width int) uint64 {
	v, _ := octet.Num(r.cut(width), 0, width) // no error: there are just so many
	return v
}

func (r *reader) half() uint16 { return uint16(r.number(2)) }
func (r *reader) word() uint32 { return uint32(r.number(4)) }

// rest is a copy of all that is left.
func (r *reader) rest() []byte { return bytes.Clone(r.cut(len(r.left))) }

// length is how many bytes the value has of the chunk, or parameter, whose length comes next.
func (r *reader) length() int {
	n := int(r.half())
	must(n >= partHead, api.ErrForm)
	return n - partHead
}

// readPacket is a stamped packet. What a reader fails with is taken back here.
func readPacket(b []byte) (h api.Head, l []api.Chunk, e api.Errno) {
	defer func() {
		if x := recover(); x != nil {
			e = api.Errno(x.(fault)) // nothing else panics here; h and l are still none
		}
	}()
	r := &reader{left: b, short: api.ErrShort}
	head := r.takeHead()
	return head, r.takeChunks(), api.OK
}

func (r *reader) takeHead() api.Head {
	var h api.Head
	h.From = r.half()
	h.To = r.half()
	h.Tag = r.word()
	r.cut(sumLen) // it was asked for ahead
	return h
}

func (r *reader) takeChunks() []api.Chunk {
	var l []api.Chunk
	for len(r.left) > 0 {
		l = append(l, r.takeChunk(len(l)))
	}
	return l
}

// takeChunk is the next chunk, which has so many ahead of it.
func (r *reader) takeChunk(ahead int) api.Chunk {
	kind, flags := uint8(r.number(1)), uint8(r.number(1))
	size := r.length()
	within := &reader{left: r.cut(size), short: api.ErrForm}
	r.cut(padding(size))
	must(ahead < api.MaxChunks, api.ErrLimit)
	v := within.takeValue(kind)
	must(len(within.left) == 0 && !lacksData(v), api.ErrForm)
	must(!hasTooMany(v), api.ErrLimit)
	return chunkOf(kind, flags, v)
}

// takeValue is the value of a chunk of a kind.
func (r *reader) takeValue(kind uint8) value {
	switch v := valueOf(api.Chunk{Type: kind}).(type) {
	case dataValue:
		return r.takeData()
	case initValue:
		return r.takeInit()
	case sackValue:
		return r.takeSack()
	case paramsValue:
		return r.takeParams()
	case tsnValue:
		return tsnValue(r.word())
	case rawValue:
		return rawValue(r.rest())
	default:
		return v
	}
}

func (r *reader) takeData() value {
	var v dataValue
	v.tsn = r.word()
	v.stream = r.half()
	v.ssn = r.half()
	v.ppid = r.word()
	v.data = r.rest()
	return v
}

func (r *reader) takeInit() value {
	var v initValue
	v.tag = r.word()
	v.room = r.word()
	v.outs = r.half()
	v.ins = r.half()
	v.tsn = r.word()
	v.params = r.takeParams()
	return v
}

func (r *reader) takeSack() value {
	var v sackValue
	v.tsn = r.word()
	v.room = r.word()
	blocks, dups := r.half(), r.half()
	for range blocks {
		first, last := r.half(), r.half()
		v.blocks = append(v.blocks, [2]uint16{first, last})
	}
	for range dups {
		v.dups = append(v.dups, r.word())
	}
	return v
}

func (r *reader) takeParams() paramsValue {
	var v paramsValue
	for len(r.left) > 0 {
		kind := r.half()
		size := r.length()
		b := r.cut(size)
		must(len(v) < api.MaxParams, api.ErrLimit)
		v = append(v, api.Param{Kind: kind, Value: bytes.Clone(b)})
		r.cut(min(padding(size), len(r.left))) // what pads the last one may be cut off
	}
	return v
}
