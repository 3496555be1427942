package chunk_test

import (
	"bytes"
	"encoding/binary"
	"hash/crc32"
	"testing"

	"trunkline/api"
	"trunkline/chunk"
)

// stamp lays a right sum into a packet, if it has room for it.
func stamp(b []byte) []byte {
	if len(b) >= 12 {
		copy(b[8:], []byte{0, 0, 0, 0})
		binary.LittleEndian.PutUint32(b[8:], crc32.Checksum(b, crc32.MakeTable(crc32.Castagnoli)))
	}
	return b
}

// padded is b with bytes of value fill behind it, up to a multiple of four.
func padded(b []byte, fill byte) []byte {
	for len(b)%4 != 0 {
		b = append(b, fill)
	}
	return b
}

// part is the bytes of a chunk, or a parameter, whose first two bytes are kind; fill is what it is padded with.
func part(kind uint16, value []byte, fill byte) []byte {
	b := binary.BigEndian.AppendUint16(nil, kind)
	b = binary.BigEndian.AppendUint16(b, uint16(4+len(value)))
	return padded(append(b, value...), fill)
}

// valueBytes is the bytes of a chunk's value, without what pads it.
func valueBytes(c api.Chunk) []byte {
	var b []byte
	word := func(v uint32) { b = binary.BigEndian.AppendUint32(b, v) }
	half := func(v uint16) { b = binary.BigEndian.AppendUint16(b, v) }
	switch c.Type {
	case 0:
		word(c.TSN)
		half(c.Stream)
		half(c.SSN)
		word(c.PPID)
	case 1, 2:
		word(c.Tag)
		word(c.Room)
		half(c.Outs)
		half(c.Ins)
		word(c.TSN)
	case 3:
		word(c.TSN)
		word(c.Room)
		half(uint16(len(c.Blocks)))
		half(uint16(len(c.Dups)))
	case 7:
		word(c.TSN)
	}
	for _, x := range c.Blocks {
		half(x[0])
		half(x[1])
	}
	for _, tsn := range c.Dups {
		word(tsn)
	}
	for i, p := range c.Params {
		if x := part(p.Kind, p.Value, 0); i < len(c.Params)-1 {
			b = append(b, x...)
		} else {
			b = append(b, x[:4+len(p.Value)]...)
		}
	}
	return append(b, c.Data...)
}

// packet is the bytes that a packet is to be.
func packet(h api.Head, l []api.Chunk) []byte {
	b := binary.BigEndian.AppendUint16(nil, h.From)
	b = binary.BigEndian.AppendUint16(b, h.To)
	b = binary.BigEndian.AppendUint32(b, h.Tag)
	b = append(b, 0, 0, 0, 0)
	for _, c := range l {
		b = append(b, part(uint16(c.Type)<<8|uint16(c.Flags), valueBytes(c), 0)...)
	}
	return stamp(b)
}

// raw is a stamped packet of a head of zeros and of bytes.
func raw(parts ...[]byte) []byte {
	return stamp(append(make([]byte, 12), bytes.Join(parts, nil)...))
}

// P12.2, Take: fewer than 16 bytes, more than MaxSctp, a wrong sum, in this order.
func TestTakeOfSizes(t *testing.T) {
	for n := range 16 {
		wantTakeErr(t, "short", stamp(make([]byte, n)), api.ErrShort)
		wantTakeErr(t, "short, a wrong sum", bytes.Repeat([]byte{255}, n), api.ErrShort)
	}
	wantTakeErr(t, "nil", nil, api.ErrShort)
	ack := []byte{11, 0, 0, 4}
	wantTake(t, "the shortest", raw(ack), api.Head{}, []api.Chunk{{Type: 11}}, api.OK)
	wantTakeErr(t, "a wrong sum", append(make([]byte, 12), ack...), api.ErrSum)
	data := make([]byte, 1464)
	long := raw(part(0x6300, data, 0))
	wantTake(t, "the longest", long, api.Head{}, []api.Chunk{{Type: 99, Data: data}}, api.OK)
	wantTakeErr(t, "one byte more", raw(part(0x6300, data, 0), []byte{0}), api.ErrLimit)
	wantTakeErr(t, "four bytes more", raw(part(0x6300, data, 0), ack), api.ErrLimit)
	wantTakeErr(t, "one byte more, a wrong sum", append(long, 0), api.ErrLimit)
	wantTakeErr(t, "very long", raw(make([]byte, 70000)), api.ErrLimit)
	b := raw([]byte{11, 0, 0, 3})
	b[8] ^= 1
	wantTakeErr(t, "a wrong sum, and a wrong length", b, api.ErrSum)
}

// P12.2, Take: what is left of a chunk, and its length.
func TestTakeOfLengths(t *testing.T) {
	ack := []byte{11, 0, 0, 4}
	for n := 1; n < 4; n++ {
		wantTakeErr(t, "fewer than four left", raw(ack, ack[:n]), api.ErrShort)
		wantTakeErr(t, "fewer than four left, of 255", raw(ack, bytes.Repeat([]byte{255}, n)), api.ErrShort)
	}
	for n := range 4 {
		wantTakeErr(t, "a length below four", raw([]byte{99, 0, 0, byte(n)}), api.ErrForm)
		wantTakeErr(t, "a length below four, behind another one", raw(ack, []byte{99, 0, 0, byte(n)}), api.ErrForm)
	}
	for n := 5; n <= 300; n++ {
		b := make([]byte, n)
		b[0] = 99
		binary.BigEndian.PutUint16(b[2:], uint16(n))
		want := api.Chunk{Type: 99, Data: b[4:]}
		wantTake(t, "a whole one", raw(padded(bytes.Clone(b), 7)), api.Head{}, []api.Chunk{want}, api.OK)
		wantTakeErr(t, "one byte too few", raw(b[:n-1]), api.ErrShort)
		if n%4 != 0 {
			wantTakeErr(t, "without padding", raw(b), api.ErrShort)
			wantTakeErr(t, "with part of its padding", raw(padded(bytes.Clone(b), 0)[:n/4*4+3]), api.ErrShort)
		}
	}
	wantTakeErr(t, "the greatest length", raw([]byte{99, 0, 255, 255}), api.ErrShort)
	wantTakeErr(t, "a value that is too short, and cut", raw([]byte{7, 0, 0, 5}), api.ErrShort)
}

// P12.2, Take: at most MaxChunks chunks; a length is told ahead of that, a value behind it.
func TestTakeOfManyChunks(t *testing.T) {
	ack := []byte{11, 0, 0, 4}
	most := bytes.Repeat(ack, 32)
	if _, l, e := chunk.Take(raw(most)); e != api.OK || len(l) != 32 {
		t.Errorf("the most: %d, error %d", len(l), e)
	}
	wantTakeErr(t, "one more", raw(most, ack), api.ErrLimit)
	wantTakeErr(t, "one more, of a wrong value", raw(most, []byte{0, 0, 0, 4}), api.ErrLimit)
	wantTakeErr(t, "one more, that is cut", raw(most, []byte{0, 0, 0, 5}), api.ErrShort)
	wantTakeErr(t, "one more, of a length below four", raw(most, []byte{0, 0, 0, 3}), api.ErrForm)
	wantTakeErr(t, "one more, of two bytes", raw(most, []byte{0, 0}), api.ErrShort)
	wantTakeErr(t, "a wrong value ahead", raw([]byte{0, 0, 0, 4}, most), api.ErrForm)
}

// P12.2, Take: the first chunk that is wrong is told.
func TestTakeTellsTheFirstChunk(t *testing.T) {
	empty, many := part(0x0000, make([]byte, 12), 0), part(0x0400, bytes.Repeat([]byte{0, 0, 0, 4}, 17), 0)
	wantTakeErr(t, "Data without Data, then too many", raw(empty, many), api.ErrForm)
	wantTakeErr(t, "too many, then Data without Data", raw(many, empty), api.ErrLimit)
	wantTakeErr(t, "Data without Data, then one that is cut", raw(empty, []byte{11, 0, 0, 5}), api.ErrForm)
}

// P12.2, Take: of each kind, values of each length.
func TestTakeOfValues(t *testing.T) {
	for kind := range 256 {
		for size := range 40 {
			value := make([]byte, size)
			want := api.OK
			switch kind {
			case 0:
				want = when(size >= 13)
			case 1, 2:
				want = when(size == 16)
			case 3:
				want = when(size == 12)
			case 4, 5, 6, 9, 8, 11, 14:
				want = when(size == 0)
			case 7:
				want = when(size == 4)
			}
			_, _, e := chunk.Take(raw(part(uint16(kind)<<8, value, 9)))
			if e != want {
				t.Errorf("kind %d, %d bytes 0: error %d; want %d", kind, size, e, want)
			}
		}
	}
}

// when is no error, if ok, else ErrForm.
func when(ok bool) api.Errno {
	if ok {
		return api.OK
	}
	return api.ErrForm
}

// sack is the value of a Sack that tells so many blocks and dups, and has so many bytes of them.
func sack(blocks, dups, size int) []byte {
	b := make([]byte, 12+size)
	binary.BigEndian.PutUint16(b[8:], uint16(blocks))
	binary.BigEndian.PutUint16(b[10:], uint16(dups))
	return part(0x0300, b, 0)
}

// P12.2, Take: a Sack is just as long as its lists, which is told ahead of how many there are.
func TestTakeOfSacks(t *testing.T) {
	for blocks := range 20 {
		for dups := range 20 {
			want := api.OK
			if blocks > 16 || dups > 16 {
				want = api.ErrLimit
			}
			size := 4 * (blocks + dups)
			_, l, e := chunk.Take(raw(sack(blocks, dups, size)))
			if e != want || e == api.OK && (len(l[0].Blocks) != blocks || len(l[0].Dups) != dups) {
				t.Errorf("%d blocks, %d dups: %s, error %d", blocks, dups, brief(l), e)
			}
			for _, other := range []int{size - 4, size - 1, size + 1, size + 4} {
				if other >= 0 {
					wantTakeErr(t, "another length", raw(sack(blocks, dups, other)), api.ErrForm)
				}
			}
		}
	}
	wantTakeErr(t, "very many", raw(sack(65535, 65535, 8)), api.ErrForm)
	wantTakeErr(t, "very many blocks", raw(sack(65535, 0, 8)), api.ErrForm)
	wantTakeErr(t, "very many dups", raw(sack(0, 65535, 8)), api.ErrForm)
	wantTakeErr(t, "many of both", raw(sack(180, 180, 4*360)), api.ErrLimit)
}

// withParams are the kinds whose values end with parameters, and the bytes ahead of these.
var withParams = []struct {
	kind  uint8
	ahead int
}{{1, 16}, {2, 16}, {4, 0}, {5, 0}, {6, 0}, {9, 0}}

// wantParams takes a packet of each kind with parameters, with these bytes as its parameters.
func wantParams(t *testing.T, name string, b []byte, want []api.Param, wantErr api.Errno) {
	t.Helper()
	for _, x := range withParams {
		p := raw(part(uint16(x.kind)<<8, append(make([]byte, x.ahead), b...), 0xee), []byte{11, 0, 0, 4})
		if wantErr != api.OK {
			wantTakeErr(t, name, p, wantErr)
			continue
		}
		wantTake(t, name, p, api.Head{}, []api.Chunk{{Type: x.kind, Params: want}, {Type: 11}}, api.OK)
	}
}

// P12.2, Take: parameters, whose padding may be cut off behind the last one, and counts for nothing.
func TestTakeOfParams(t *testing.T) {
	one := api.Param{Kind: 0x0102, Value: []byte{1}}
	wantParams(t, "none", nil, nil, api.OK)
	wantParams(t, "one, without padding", unhex("0102 0005 01"), []api.Param{one}, api.OK)
	wantParams(t, "one, with one byte of padding", unhex("0102 0005 01 ff"), []api.Param{one}, api.OK)
	wantParams(t, "one, with two", unhex("0102 0005 01 ffff"), []api.Param{one}, api.OK)
	wantParams(t, "one, with all of it", unhex("0102 0005 01 ffffff"), []api.Param{one}, api.OK)
	wantParams(t, "two", unhex("0102 0005 01 ffffff 0102 0005 01"), []api.Param{one, one}, api.OK)
	wantParams(t, "an empty one behind", unhex("0102 0005 01 ffffff 0001 0004"), []api.Param{one, {Kind: 1}}, api.OK)
	wantParams(t, "an empty one ahead", unhex("0001 0004 0102 0005 01"), []api.Param{{Kind: 1}, one}, api.OK)
	wantParams(t, "one byte left", unhex("0102 0005 01 ffffff 00"), nil, api.ErrForm)
	wantParams(t, "three bytes left", unhex("0102 0005 01 ffffff 000000"), nil, api.ErrForm)
	wantParams(t, "one byte", unhex("00"), nil, api.ErrForm)
	wantParams(t, "three bytes", unhex("000100"), nil, api.ErrForm)
	for n := range 4 {
		wantParams(t, "a length below four", []byte{0, 1, 0, byte(n)}, nil, api.ErrForm)
		wantParams(t, "a length below four, with more behind", []byte{0, 1, 0, byte(n), 1, 2, 3, 4}, nil, api.ErrForm)
	}
	wantParams(t, "a length above what is left", unhex("0001 0005"), nil, api.ErrForm)
	wantParams(t, "by one", unhex("0001 0009 01020304"), nil, api.ErrForm)
	wantParams(t, "by much", unhex("0001 ffff 01020304"), nil, api.ErrForm)
	wantParams(t, "just what is left", unhex("0001 0008 01020304"), []api.Param{{Kind: 1, Value: []byte{1, 2, 3, 4}}}, api.OK)
}

// P12.2, Take: at most MaxParams parameters; the form of each is told ahead of that.
func TestTakeOfManyParams(t *testing.T) {
	one := []byte{0, 7, 0, 4}
	most := bytes.Repeat(one, 16)
	want := make([]api.Param, 16)
	for i := range want {
		want[i].Kind = 7
	}
	wantParams(t, "the most", most, want, api.OK)
	wantParams(t, "one more", append(bytes.Clone(most), one...), nil, api.ErrLimit)
	wantParams(t, "one more, of a wrong length", append(bytes.Clone(most), 0, 7, 0, 3), nil, api.ErrForm)
	wantParams(t, "one more, that is cut", append(bytes.Clone(most), 0, 7, 0, 5), nil, api.ErrForm)
	wantParams(t, "one more, of two bytes", append(bytes.Clone(most), 0, 7), nil, api.ErrForm)
	wantParams(t, "two more, the second one wrong", append(bytes.Clone(most), 0, 7, 0, 4, 0, 7, 0, 3), nil, api.ErrLimit)
	wantParams(t, "many", bytes.Repeat(one, 300), nil, api.ErrLimit)
}

// P12.2, Take: what padding has counts for nothing.
func TestPaddingCountsForNothing(t *testing.T) {
	for _, fill := range []byte{0, 1, 255} {
		b := raw(part(0x0a00, []byte{1, 2, 3, 4, 5}, fill), part(0x0000, append(make([]byte, 12), 6), fill), part(0x0400, part(1, []byte{1, 2}, fill), fill))
		wantTake(t, "padding", b, api.Head{}, []api.Chunk{{Type: 10, Data: []byte{1, 2, 3, 4, 5}}, {Type: 0, Data: []byte{6}}, {Type: 4, Params: []api.Param{{Kind: 1, Value: []byte{1, 2}}}}}, api.OK)
	}
}

// modelTake is what a stamped packet's chunks are to be, told step by step.
func modelTake(b []byte) ([]api.Chunk, api.Errno) {
	var l []api.Chunk
	for at := 12; at < len(b); {
		left := len(b) - at
		if left < 4 {
			return nil, api.ErrShort
		}
		size := int(b[at+2])<<8 + int(b[at+3])
		if size < 4 {
			return nil, api.ErrForm
		}
		if left < (size+3)/4*4 {
			return nil, api.ErrShort
		}
		if len(l) == 32 {
			return nil, api.ErrLimit
		}
		c, e := modelChunk(b[at], b[at+1], b[at+4:at+size])
		if e != api.OK {
			return nil, e
		}
		l = append(l, c)
		at += (size + 3) / 4 * 4
	}
	return l, api.OK
}

func modelChunk(kind, flags uint8, v []byte) (api.Chunk, api.Errno) {
	c := api.Chunk{Type: kind, Flags: flags}
	word, half := binary.BigEndian.Uint32, binary.BigEndian.Uint16
	must := map[uint8]int{0: 13, 1: 16, 2: 16, 3: 12, 7: 4}[kind]
	if len(v) < must {
		return c, api.ErrForm
	}
	switch kind {
	case 0:
		c.TSN, c.Stream, c.SSN, c.PPID, c.Data = word(v), half(v[4:]), half(v[6:]), word(v[8:]), v[12:]
	case 1, 2:
		c.Tag, c.Room, c.Outs, c.Ins, c.TSN = word(v), word(v[4:]), half(v[8:]), half(v[10:]), word(v[12:])
		return modelParams(c, v[16:])
	case 3:
		c.TSN, c.Room = word(v), word(v[4:])
		blocks, dups := int(half(v[8:])), int(half(v[10:]))
		if len(v) != 12+4*blocks+4*dups {
			return c, api.ErrForm
		}
		if blocks > 16 || dups > 16 {
			return c, api.ErrLimit
		}
		for i := range blocks {
			c.Blocks = append(c.Blocks, [2]uint16{half(v[12+4*i:]), half(v[14+4*i:])})
		}
		for i := range dups {
			c.Dups = append(c.Dups, word(v[12+4*blocks+4*i:]))
		}
	case 4, 5, 6, 9:
		return modelParams(c, v)
	case 7:
		if len(v) > 4 {
			return c, api.ErrForm
		}
		c.TSN = word(v)
	case 8, 11, 14:
		if len(v) > 0 {
			return c, api.ErrForm
		}
	default:
		c.Data = v
	}
	return c, api.OK
}

func modelParams(c api.Chunk, v []byte) (api.Chunk, api.Errno) {
	for at := 0; at < len(v); {
		if len(v)-at < 4 {
			return c, api.ErrForm
		}
		size := int(v[at+2])<<8 + int(v[at+3])
		if size < 4 || size > len(v)-at {
			return c, api.ErrForm
		}
		if len(c.Params) == 16 {
			return c, api.ErrLimit
		}
		c.Params = append(c.Params, api.Param{Kind: uint16(v[at])<<8 + uint16(v[at+1]), Value: v[at+4 : at+size]})
		at += (size + 3) / 4 * 4
	}
	return c, api.OK
}

// drawTurned is a stamped packet of which some bytes, above all those of lengths, are not what they were.
func drawTurned(draw func() uint64) []byte {
	b := packet(drawPacket(draw))
	for range draw() % 4 {
		at := 12 + int(draw()%uint64(len(b)-12))
		switch draw() % 4 {
		case 0:
			b[at] = byte(draw())
		case 1:
			b[at] = byte(draw() % 20)
		case 2:
			b[14], b[15] = 0, byte(draw()%uint64(len(b)))
		case 3:
			b = b[:max(16, at)]
		}
	}
	return stamp(b)
}

// P12.2, P12.6 and P1: bytes of any kind are taken as the chapter tells it; what is taken may be put, and is the same taken again.
func TestTakeOfAnyBytes(t *testing.T) {
	draw := draws(126)
	count := map[api.Errno]int{}
	for i := range 40000 {
		b := drawTurned(draw)
		if i%4 == 0 {
			b = stamp(append(make([]byte, 12), drawBytes(draw, 4+int(draw()%30))...))
		}
		want, e := modelTake(b)
		count[e]++
		var h api.Head
		if e == api.OK {
			h = api.Head{From: binary.BigEndian.Uint16(b), To: binary.BigEndian.Uint16(b[2:]), Tag: binary.BigEndian.Uint32(b[4:])}
		}
		wantTake(t, "any bytes", b, h, want, e)
		if e != api.OK {
			continue
		}
		again, e := chunk.Put(h, want)
		if e != api.OK || len(again) > len(b) {
			t.Fatalf("what was taken may not be: %s: %d bytes, error %d", brief(want), len(again), e)
		}
		wantTake(t, "again", again, h, want, api.OK)
	}
	for e, least := range map[api.Errno]int{api.OK: 5000, api.ErrForm: 2000, api.ErrShort: 2000, api.ErrLimit: 2} {
		if count[e] < least {
			t.Errorf("error %d came %d times", e, count[e])
		}
	}
}
